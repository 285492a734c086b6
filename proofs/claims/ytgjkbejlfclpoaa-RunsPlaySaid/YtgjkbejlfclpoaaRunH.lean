/-
  Package runs: New, Run, Has, Next, Gap.
-/
import Derived.Test.YtgjkbejlfclpoaaRunQ
namespace Go.Proofs.Ytgjkbejlfclpoaa.rn
open Go.RowKit Go.Shelf aid mem rng sp
attribute [local go_sem ↓] Go.wp_at_zero Go.wp_at_succ
set_option linter.unusedVariables false
set_option linter.unusedSimpArgs false

/-- a new set is handed back -/
def RetR (l : List Sp) (w : World) (e : Ending) (w' : World) : Prop := ∃ B a n cap, e = .returned (.pointer (some ⟨B, 0, none⟩)) ∧ RnAt w' B a n cap l ∧ Below w.heap.size w w' ∧ w.heap.size ≤ B ∧ ∀ b ∈ blk a cap, w.heap.size ≤ b
theorem new_any (w : World) : Calls Try.prog 6 #[] w (RetR [] w) := by
  have HF := Lib.hid (show RetR [] w (.returned (.pointer (some ⟨w.heap.size, 0, none⟩))) (w.alloc (.cells #[.slice none 0 0] 56)) from
    ⟨_, none, 0, 0, rfl, ⟨heap_alloc_new w _, SlR.nil _ _ 2⟩, bal _, Nat.le_refl _, fun b hb => by simp [blk_zero] at hb⟩)
  go_enter Try.func6, Try.ntmps6
  go_wp2
  go_ret
  exact HF.out
/-- a span and whether there is one -/
def RetSB (x : Sp) (b : Bool) (w : World) (e : Ending) (w' : World) : Prop := e = .returned (.tuple #[.agg #[.int .i64 x.1, .int .i64 x.2], .bool b]) ∧ Below w.heap.size w w'
set_option maxHeartbeats 1000000 in
theorem run_any {w : World} {v : Value} {a : Option Addr} {n cap : Nat} {l : List Sp} (h : Rv w v a n cap l) (hl : Rn l) (hn : n < 1000000000000) (o : Int) :
    Calls Try.prog 13 #[v, .int .i64 o] w (RetSB (runL l o) (decide (0 < lenI (runL l o))) w) := by
  have hlen := row_len h.row
  obtain ⟨b1, b2, b3⟩ := bhd_spec hl o
  have hra := run_at (o := o) hl b1 b2 b3
  rw [hlen] at b1 hra
  have ba := bal (w := w) (.cells #[.int .i64 0, .int .i64 0] 24)
  have HB := Lib.hid (behind_any (h.later ba) hl (by omega) o)
  have HLE := Lib.hid (fun X (hX : Below w.heap.size w X) => len_any' (h.later hX))
  have s0 := sp_new w (0, 0)
  obtain ⟨W1, hW1⟩ : ∃ W1, W1 = w.alloc (.cells #[.int .i64 0, .int .i64 0] 24) := ⟨_, rfl⟩
  have HW1 := Lib.hid hW1
  rw [← hW1] at HB s0 ba
  clear hW1
  have hz0 := lt_of_block s0
  generalize bhd l o = r at *
  rcases hra with ⟨c1, c2, c3, c4⟩ | ⟨c1, c2⟩
  · rcases h with ⟨_, _, hn0, _⟩ | ⟨B, rfl, h⟩
    · omega
    · have hB := lt_of_block h.hdr
      have hH := h.later ba
      obtain ⟨g, off, rfl, hc⟩ := row_cells h.row (by omega)
      obtain ⟨m0, m1⟩ := hc r c1
      rw [decide_eq_true c4, c3]
      have hle := h.row.le
      have hmost := h.row.most
      unfold maxLen at hmost
      have HH := Lib.hid (fun X => has_any (l.getD r (0, 0)) o X)
      rw [c2] at HH
      have HM := Lib.hid (And.intro m0 m1)
      have HC := Lib.hid h
      have HBA := Lib.hid ba
      have HS0 := Lib.hid s0
      clear c2 c3 c4 hc m0 m1 b2 b3 hlen hl h s0 hH ba
      generalize l.getD r (0, 0) = m at *
      go_enter Try.func13, Try.ntmps13
      go_wp2_with fail
      rw [← HW1.out]
      refine HB.out.mono ?_
      rintro e w2 ⟨rfl, h2⟩
      have hb2 := HBA.out.trans (h2.mono HBA.out.size)
      have s2 := HS0.out.later h2
      have k0 := cofr (HC.out.later hb2).hdr 0 _ rfl
      have k1 := kcell hb2 HM.out.1; have k2 := kcell hb2 HM.out.2
      go_wp2_with (go_at_call 10; refine (HLE.out _ hb2).mono ?_; rintro e w' ⟨rfl, rfl⟩)
      refine (HH.out _).mono ?_
      rintro e w3 ⟨rfl, h3⟩
      have hb3 := hb2.trans (h3.mono hb2.size)
      have s3 := s2.later h3
      clear k0 k1 k2
      have k0 := cofr (HC.out.later hb3).hdr 0 _ rfl
      have k1 := kcell hb3 HM.out.1; have k2 := kcell hb3 HM.out.2
      have e0 := s3.c0; have e1 := s3.c1; have f0 := s3.f0; have f1 := s3.f1
      have s4 := s3.put m.1 m.2
      have hb4 := hb3.trans ((kput w3 w.heap.size (.int .i64 m.1) (.int .i64 m.2)).below (B := w.heap.size) (by simp) hb3.size)
      have g0 := s4.c0; have g1 := s4.c1
      clear s2 s3 s4 hb2 hb3 h2 h3
      have HB4 := Lib.hid hb4
      clear hb4
      go_wp2_with fail
      exact bodyPost_ret (v := .tuple #[.agg #[.int .i64 m.1, .int .i64 m.2], .bool true]) (by simp [results, Try.results13, go_sem, g0, g1]) rfl ⟨rfl, HB4.out⟩
  · rw [c2]
    have hnl : decide (0 < lenI ((0, 0) : Sp)) = false := by simp [lenI, fitP, mayB]
    rw [hnl]
    by_cases hr : r < n
    · rcases h with ⟨_, _, hn0, _⟩ | ⟨B, rfl, h⟩
      · omega
      · obtain ⟨g, off, rfl, hc⟩ := row_cells h.row (by omega)
        obtain ⟨m0, m1⟩ := hc r hr
        have hle := h.row.le
        have hmost := h.row.most
        unfold maxLen at hmost
        have HH := Lib.hid (fun X => has_any (l.getD r (0, 0)) o X)
        rw [c1 hr] at HH
        have HM := Lib.hid (And.intro m0 m1)
        have HC := Lib.hid h
        have HBA := Lib.hid ba
        have HS0 := Lib.hid s0
        clear c1 c2 hnl hc m0 m1 b2 b3 hlen hl h s0 ba
        generalize l.getD r (0, 0) = m at *
        go_enter Try.func13, Try.ntmps13
        go_wp2_with fail
        rw [← HW1.out]
        refine HB.out.mono ?_
        rintro e w2 ⟨rfl, h2⟩
        have hb2 := HBA.out.trans (h2.mono HBA.out.size)
        have s2 := HS0.out.later h2
        have k0 := cofr (HC.out.later hb2).hdr 0 _ rfl
        have k1 := kcell hb2 HM.out.1; have k2 := kcell hb2 HM.out.2
        go_wp2_with (go_at_call 10; refine (HLE.out _ hb2).mono ?_; rintro e w' ⟨rfl, rfl⟩)
        refine (HH.out _).mono ?_
        rintro e w3 ⟨rfl, h3⟩
        have hb3 := hb2.trans (h3.mono hb2.size)
        have s3 := s2.later h3
        have e0 := s3.c0; have e1 := s3.c1; have f0 := s3.f0; have f1 := s3.f1
        have s4 := s3.put 0 0
        have hb4 := hb3.trans ((kput w3 w.heap.size (.int .i64 0) (.int .i64 0)).below (B := w.heap.size) (by simp) hb3.size)
        have g0 := s4.c0; have g1 := s4.c1
        clear s2 s3 s4 hb2 hb3 h2 h3 k0 k1 k2
        have HB4 := Lib.hid hb4
        clear hb4
        go_wp2_with fail
        exact bodyPost_ret (v := .tuple #[.agg #[.int .i64 0, .int .i64 0], .bool false]) (by simp [results, Try.results13, go_sem, g0, g1]) rfl ⟨rfl, HB4.out⟩
    · obtain ⟨p, rfl⟩ := h.ptr
      have HBA := Lib.hid ba
      have HS0 := Lib.hid s0
      clear c1 c2 hnl b2 b3 hlen hl h s0 ba
      go_enter Try.func13, Try.ntmps13
      go_wp2_with fail
      rw [← HW1.out]
      refine HB.out.mono ?_
      rintro e w2 ⟨rfl, h2⟩
      have hb2 := HBA.out.trans (h2.mono HBA.out.size)
      have s3 := HS0.out.later h2
      have e0 := s3.c0; have e1 := s3.c1; have f0 := s3.f0; have f1 := s3.f1
      have s4 := s3.put 0 0
      have hb4 := hb2.trans ((kput w2 w.heap.size (.int .i64 0) (.int .i64 0)).below (B := w.heap.size) (by simp) hb2.size)
      have g0 := s4.c0; have g1 := s4.c1
      have HB2 := Lib.hid hb2
      have HB4 := Lib.hid hb4
      clear s3 s4 hb2 h2 hb4
      go_wp2_with (go_at_call 10; refine (HLE.out _ HB2.out).mono ?_; rintro e w' ⟨rfl, rfl⟩)
      exact bodyPost_ret (v := .tuple #[.agg #[.int .i64 0, .int .i64 0], .bool false]) (by simp [results, Try.results13, go_sem, g0, g1]) rfl ⟨rfl, HB4.out⟩
theorem has_any' {w : World} {v : Value} {a : Option Addr} {n cap : Nat} {l : List Sp} (h : Rv w v a n cap l) (hl : Rn l) (hn : n < 1000000000000) (o : Int) :
    Calls Try.prog 17 #[v, .int .i64 o] w (RetB (decide (0 < lenI (runL l o))) w) := by
  have HR := Lib.hid (run_any h hl hn o)
  obtain ⟨p, rfl⟩ := h.ptr
  generalize runL l o = x at *
  clear h
  generalize decide (0 < lenI x) = b at *
  go_enter Try.func17, Try.ntmps17
  go_wp2_with fail
  refine HR.out.mono ?_
  rintro e w2 ⟨rfl, h2⟩
  have HB := Lib.hid (h2.trans ((bal (w := w2) (.cells #[.int .i64 x.1, .int .i64 x.2] 24)).mono h2.size))
  clear h2
  go_wp2
  go_ret
  exact ⟨rfl, HB.out⟩
set_option maxHeartbeats 1000000 in
theorem next_any {w : World} {v : Value} {a : Option Addr} {n cap : Nat} {l : List Sp} (h : Rv w v a n cap l) (hl : Rn l) (hn : n < 1000000000000) (o : Int) :
    Calls Try.prog 14 #[v, .int .i64 o] w (RetSB (nextL l o) (decide (0 < lenI (nextL l o))) w) := by
  have hlen := row_len h.row
  obtain ⟨b1, b2, b3⟩ := bhd_spec hl o
  have hra := next_at (o := o) hl b1 b2 b3
  rw [hlen] at b1 hra
  have ba := bal (w := w) (.cells #[.int .i64 0, .int .i64 0] 24)
  have HB := Lib.hid (behind_any (h.later ba) hl (by omega) o)
  have HLE := Lib.hid (fun X (hX : Below w.heap.size w X) => len_any' (h.later hX))
  have s0 := sp_new w (0, 0)
  obtain ⟨W1, hW1⟩ : ∃ W1, W1 = w.alloc (.cells #[.int .i64 0, .int .i64 0] 24) := ⟨_, rfl⟩
  have HW1 := Lib.hid hW1
  rw [← hW1] at HB s0 ba
  clear hW1
  have hz0 := lt_of_block s0
  generalize bhd l o = r at *
  rcases hra with ⟨c1, c3, c4⟩ | ⟨c1, c2⟩
  · rcases h with ⟨_, _, hn0, _⟩ | ⟨B, rfl, h⟩
    · omega
    · have hB := lt_of_block h.hdr
      obtain ⟨g, off, rfl, hc⟩ := row_cells h.row (by omega)
      obtain ⟨m0, m1⟩ := hc r c1
      rw [decide_eq_true c4]
      have hle := h.row.le
      have hmost := h.row.most
      unfold maxLen at hmost
      have HH := Lib.hid (fun X => from_any (l.getD r (0, 0)) o X)
      rw [← c3] at HH
      have HM := Lib.hid (And.intro m0 m1)
      have HC := Lib.hid h
      have HBA := Lib.hid ba
      have HS0 := Lib.hid s0
      clear c3 c4 hc m0 m1 b2 b3 hlen hl h s0 ba
      generalize l.getD r (0, 0) = m at *
      generalize nextL l o = x at *
      go_enter Try.func14, Try.ntmps14
      go_wp2_with fail
      rw [← HW1.out]
      refine HB.out.mono ?_
      rintro e w2 ⟨rfl, h2⟩
      have hb2 := HBA.out.trans (h2.mono HBA.out.size)
      have s2 := HS0.out.later h2
      have k0 := cofr (HC.out.later hb2).hdr 0 _ rfl
      have k1 := kcell hb2 HM.out.1; have k2 := kcell hb2 HM.out.2
      go_wp2_with (go_at_call 10; refine (HLE.out _ hb2).mono ?_; rintro e w' ⟨rfl, rfl⟩)
      refine (HH.out _).mono ?_
      rintro e w3 ⟨rfl, h3⟩
      have hb3 := hb2.trans (h3.mono hb2.size)
      have s3 := s2.later h3
      clear k0 k1 k2
      have e0 := s3.c0; have e1 := s3.c1; have f0 := s3.f0; have f1 := s3.f1
      have s4 := s3.put x.1 x.2
      have hb4 := hb3.trans ((kput w3 w.heap.size (.int .i64 x.1) (.int .i64 x.2)).below (B := w.heap.size) (by simp) hb3.size)
      have g0 := s4.c0; have g1 := s4.c1
      clear s2 s3 s4 hb2 hb3 h2 h3
      have HB4 := Lib.hid hb4
      clear hb4
      go_wp2_with fail
      exact bodyPost_ret (v := .tuple #[.agg #[.int .i64 x.1, .int .i64 x.2], .bool true]) (by simp [results, Try.results14, go_sem, g0, g1]) rfl ⟨rfl, HB4.out⟩
  · rw [c2]
    have hnl : decide (0 < lenI ((0, 0) : Sp)) = false := by simp [lenI, fitP, mayB]
    rw [hnl]
    obtain ⟨p, rfl⟩ := h.ptr
    have HBA := Lib.hid ba
    have HS0 := Lib.hid s0
    clear c2 hnl b2 b3 hlen hl h s0 ba
    go_enter Try.func14, Try.ntmps14
    go_wp2_with fail
    rw [← HW1.out]
    refine HB.out.mono ?_
    rintro e w2 ⟨rfl, h2⟩
    have hb2 := HBA.out.trans (h2.mono HBA.out.size)
    have s3 := HS0.out.later h2
    have e0 := s3.c0; have e1 := s3.c1; have f0 := s3.f0; have f1 := s3.f1
    have s4 := s3.put 0 0
    have hb4 := hb2.trans ((kput w2 w.heap.size (.int .i64 0) (.int .i64 0)).below (B := w.heap.size) (by simp) hb2.size)
    have g0 := s4.c0; have g1 := s4.c1
    have HB2 := Lib.hid hb2
    have HB4 := Lib.hid hb4
    clear s3 s4 hb2 h2 hb4
    go_wp2_with (go_at_call 10; refine (HLE.out _ HB2.out).mono ?_; rintro e w' ⟨rfl, rfl⟩)
    exact bodyPost_ret (v := .tuple #[.agg #[.int .i64 0, .int .i64 0], .bool false]) (by simp [results, Try.results14, go_sem, g0, g1]) rfl ⟨rfl, HB4.out⟩
theorem gap_any {w : World} {v : Value} {a : Option Addr} {n cap : Nat} {l : List Sp} (h : Rv w v a n cap l) (hl : Rn l) (hn : n < 1000000000000) (o : Int) :
    Calls Try.prog 22 #[v, .int .i64 o] w (RetI (gapL l o) w) := by
  obtain ⟨p, rfl⟩ := h.ptr
  have HR := Lib.hid (run_any h hl hn (atI o))
  have HG := Lib.hid (gap_def l o)
  have hc : (o < 0 ∧ atI o = 0) ∨ (¬ o < 0 ∧ ¬ 4611686018427387904 < o ∧ atI o = o) ∨ (4611686018427387904 < o ∧ ¬ o < 0 ∧ atI o = 4611686018427387904) := by unfold atI; omega
  clear h hl hn
  generalize gapL l o = G at *
  generalize runL l (atI o) = x at *
  rcases hc with ⟨h1, h2⟩ | ⟨h1, h3, h2⟩ | ⟨h1, h3, h2⟩
  all_goals
    rw [h2] at HR HG
    clear h2
    by_cases hx : 0 < lenI x
    all_goals
      first
        | rw [if_pos hx] at HG
        | rw [if_neg hx] at HG
      first
        | rw [decide_eq_true hx] at HR
        | rw [decide_eq_false hx] at HR
      clear hx
      go_enter Try.func22, Try.ntmps22
      go_wp2_with fail
      refine HR.out.mono ?_
      rintro e w2 ⟨rfl, h2⟩
      have HB := Lib.hid (h2.trans ((bal (w := w2) (.cells #[.int .i64 x.1, .int .i64 x.2] 24)).mono h2.size))
      clear h2
      go_wp2
      go_ret
      exact ⟨congrArg (fun z => Ending.returned (.int .i64 z)) HG.out.symm, HB.out⟩
end Go.Proofs.Ytgjkbejlfclpoaa.rn
