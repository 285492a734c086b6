/-
  Several texts in one: RunH RunC RunD RunF RunE RunG
-/
import Derived.Test.YtekddgmmfgpehaaM4
/-!   Package runs: New, Run, Has, Next, Gap.
-/
namespace Go.Proofs.Ytekddgmmfgpehaa.rn
open Go.RowKit Go.Shelf aid mem rng sp
attribute [local go_sem ↓] Go.wp_at_zero Go.wp_at_succ
set_option linter.unusedVariables false
set_option linter.unusedSimpArgs false

/-- a new set is handed back -/
def RetR (l : List Sp) (w : World) (e : Ending) (w' : World) : Prop := ∃ B a n cap, e = .returned (.pointer (some ⟨B, 0, none⟩)) ∧ RnAt w' B a n cap l ∧ Below w.heap.size w w' ∧ w.heap.size ≤ B ∧ ∀ b ∈ blk a cap, w.heap.size ≤ b
theorem new_any (w : World) : Calls Try.prog 19 #[] w (RetR [] w) := by
  have HF := Lib.hid (show RetR [] w (.returned (.pointer (some ⟨w.heap.size, 0, none⟩))) (w.alloc (.cells #[.slice none 0 0] 90)) from
    ⟨_, none, 0, 0, rfl, ⟨heap_alloc_new w _, SlR.nil _ _ 2⟩, bal _, Nat.le_refl _, fun b hb => by simp [blk_zero] at hb⟩)
  go_enter Try.func19, Try.ntmps19
  go_wp2
  go_ret
  exact HF.out
/-- a span and whether there is one -/
def RetSB (x : Sp) (b : Bool) (w : World) (e : Ending) (w' : World) : Prop := e = .returned (.tuple #[.agg #[.int .i64 x.1, .int .i64 x.2], .bool b]) ∧ Below w.heap.size w w'
set_option maxHeartbeats 1000000 in
theorem run_any {w : World} {v : Value} {a : Option Addr} {n cap : Nat} {l : List Sp} (h : Rv w v a n cap l) (hl : Rn l) (hn : n < 1000000000000) (o : Int) :
    Calls Try.prog 62 #[v, .int .i64 o] w (RetSB (runL l o) (decide (0 < lenI (runL l o))) w) := by
  have hlen := row_len h.row
  obtain ⟨b1, b2, b3⟩ := bhd_spec hl o
  have hra := run_at (o := o) hl b1 b2 b3
  rw [hlen] at b1 hra
  have ba := bal (w := w) (.cells #[.int .i64 0, .int .i64 0] 36)
  have HB := Lib.hid (behind_any (h.later ba) hl (by omega) o)
  have HLE := Lib.hid (fun X (hX : Below w.heap.size w X) => len_any' (h.later hX))
  have s0 := sp_new w (0, 0)
  obtain ⟨W1, hW1⟩ : ∃ W1, W1 = w.alloc (.cells #[.int .i64 0, .int .i64 0] 36) := ⟨_, rfl⟩
  have HW1 := Lib.hid hW1
  rw [← hW1] at HB s0 ba
  clear hW1
  have hz0 := lt_of_block s0
  generalize bhd l o = r at *
  rcases hra with ⟨c1, c2, c3, c4⟩ | ⟨c1, c2⟩
  · rcases h with ⟨_, _, hn0, _⟩ | ⟨B, rfl, h⟩
    · omega
    · have hB := lt_of_block h.hdr
      have hH := h.later ba
      obtain ⟨g, off, rfl, hc⟩ := row_cells h.row (by omega)
      obtain ⟨m0, m1⟩ := hc r c1
      rw [decide_eq_true c4, c3]
      have hle := h.row.le
      have hmost := h.row.most
      unfold maxLen at hmost
      have HH := Lib.hid (fun X => has_any (l.getD r (0, 0)) o X)
      rw [c2] at HH
      have HM := Lib.hid (And.intro m0 m1)
      have HC := Lib.hid h
      have HBA := Lib.hid ba
      have HS0 := Lib.hid s0
      clear c2 c3 c4 hc m0 m1 b2 b3 hlen hl h s0 hH ba
      generalize l.getD r (0, 0) = m at *
      go_enter Try.func62, Try.ntmps62
      go_wp2_with fail
      rw [← HW1.out]
      refine HB.out.mono ?_
      rintro e w2 ⟨rfl, h2⟩
      have hb2 := HBA.out.trans (h2.mono HBA.out.size)
      have s2 := HS0.out.later h2
      have k0 := cofr (HC.out.later hb2).hdr 0 _ rfl
      have k1 := kcell hb2 HM.out.1; have k2 := kcell hb2 HM.out.2
      go_wp2_with (go_at_call 78; refine (HLE.out _ hb2).mono ?_; rintro e w' ⟨rfl, rfl⟩)
      refine (HH.out _).mono ?_
      rintro e w3 ⟨rfl, h3⟩
      have hb3 := hb2.trans (h3.mono hb2.size)
      have s3 := s2.later h3
      clear k0 k1 k2
      have k0 := cofr (HC.out.later hb3).hdr 0 _ rfl
      have k1 := kcell hb3 HM.out.1; have k2 := kcell hb3 HM.out.2
      have e0 := s3.c0; have e1 := s3.c1; have f0 := s3.f0; have f1 := s3.f1
      have s4 := s3.put m.1 m.2
      have hb4 := hb3.trans ((kput w3 w.heap.size (.int .i64 m.1) (.int .i64 m.2)).below (B := w.heap.size) (by simp) hb3.size)
      have g0 := s4.c0; have g1 := s4.c1
      clear s2 s3 s4 hb2 hb3 h2 h3
      have HB4 := Lib.hid hb4
      clear hb4
      go_wp2_with fail
      exact bodyPost_ret (v := .tuple #[.agg #[.int .i64 m.1, .int .i64 m.2], .bool true]) (by simp [results, Try.results62, go_sem, g0, g1]) rfl ⟨rfl, HB4.out⟩
  · rw [c2]
    have hnl : decide (0 < lenI ((0, 0) : Sp)) = false := by simp [lenI, fitP, mayB]
    rw [hnl]
    by_cases hr : r < n
    · rcases h with ⟨_, _, hn0, _⟩ | ⟨B, rfl, h⟩
      · omega
      · obtain ⟨g, off, rfl, hc⟩ := row_cells h.row (by omega)
        obtain ⟨m0, m1⟩ := hc r hr
        have hle := h.row.le
        have hmost := h.row.most
        unfold maxLen at hmost
        have HH := Lib.hid (fun X => has_any (l.getD r (0, 0)) o X)
        rw [c1 hr] at HH
        have HM := Lib.hid (And.intro m0 m1)
        have HC := Lib.hid h
        have HBA := Lib.hid ba
        have HS0 := Lib.hid s0
        clear c1 c2 hnl hc m0 m1 b2 b3 hlen hl h s0 ba
        generalize l.getD r (0, 0) = m at *
        go_enter Try.func62, Try.ntmps62
        go_wp2_with fail
        rw [← HW1.out]
        refine HB.out.mono ?_
        rintro e w2 ⟨rfl, h2⟩
        have hb2 := HBA.out.trans (h2.mono HBA.out.size)
        have s2 := HS0.out.later h2
        have k0 := cofr (HC.out.later hb2).hdr 0 _ rfl
        have k1 := kcell hb2 HM.out.1; have k2 := kcell hb2 HM.out.2
        go_wp2_with (go_at_call 78; refine (HLE.out _ hb2).mono ?_; rintro e w' ⟨rfl, rfl⟩)
        refine (HH.out _).mono ?_
        rintro e w3 ⟨rfl, h3⟩
        have hb3 := hb2.trans (h3.mono hb2.size)
        have s3 := s2.later h3
        have e0 := s3.c0; have e1 := s3.c1; have f0 := s3.f0; have f1 := s3.f1
        have s4 := s3.put 0 0
        have hb4 := hb3.trans ((kput w3 w.heap.size (.int .i64 0) (.int .i64 0)).below (B := w.heap.size) (by simp) hb3.size)
        have g0 := s4.c0; have g1 := s4.c1
        clear s2 s3 s4 hb2 hb3 h2 h3 k0 k1 k2
        have HB4 := Lib.hid hb4
        clear hb4
        go_wp2_with fail
        exact bodyPost_ret (v := .tuple #[.agg #[.int .i64 0, .int .i64 0], .bool false]) (by simp [results, Try.results62, go_sem, g0, g1]) rfl ⟨rfl, HB4.out⟩
    · obtain ⟨p, rfl⟩ := h.ptr
      have HBA := Lib.hid ba
      have HS0 := Lib.hid s0
      clear c1 c2 hnl b2 b3 hlen hl h s0 ba
      go_enter Try.func62, Try.ntmps62
      go_wp2_with fail
      rw [← HW1.out]
      refine HB.out.mono ?_
      rintro e w2 ⟨rfl, h2⟩
      have hb2 := HBA.out.trans (h2.mono HBA.out.size)
      have s3 := HS0.out.later h2
      have e0 := s3.c0; have e1 := s3.c1; have f0 := s3.f0; have f1 := s3.f1
      have s4 := s3.put 0 0
      have hb4 := hb2.trans ((kput w2 w.heap.size (.int .i64 0) (.int .i64 0)).below (B := w.heap.size) (by simp) hb2.size)
      have g0 := s4.c0; have g1 := s4.c1
      have HB2 := Lib.hid hb2
      have HB4 := Lib.hid hb4
      clear s3 s4 hb2 h2 hb4
      go_wp2_with (go_at_call 78; refine (HLE.out _ HB2.out).mono ?_; rintro e w' ⟨rfl, rfl⟩)
      exact bodyPost_ret (v := .tuple #[.agg #[.int .i64 0, .int .i64 0], .bool false]) (by simp [results, Try.results62, go_sem, g0, g1]) rfl ⟨rfl, HB4.out⟩
set_option maxHeartbeats 1000000 in
theorem next_any {w : World} {v : Value} {a : Option Addr} {n cap : Nat} {l : List Sp} (h : Rv w v a n cap l) (hl : Rn l) (hn : n < 1000000000000) (o : Int) :
    Calls Try.prog 48 #[v, .int .i64 o] w (RetSB (nextL l o) (decide (0 < lenI (nextL l o))) w) := by
  have hlen := row_len h.row
  obtain ⟨b1, b2, b3⟩ := bhd_spec hl o
  have hra := next_at (o := o) hl b1 b2 b3
  rw [hlen] at b1 hra
  have ba := bal (w := w) (.cells #[.int .i64 0, .int .i64 0] 36)
  have HB := Lib.hid (behind_any (h.later ba) hl (by omega) o)
  have HLE := Lib.hid (fun X (hX : Below w.heap.size w X) => len_any' (h.later hX))
  have s0 := sp_new w (0, 0)
  obtain ⟨W1, hW1⟩ : ∃ W1, W1 = w.alloc (.cells #[.int .i64 0, .int .i64 0] 36) := ⟨_, rfl⟩
  have HW1 := Lib.hid hW1
  rw [← hW1] at HB s0 ba
  clear hW1
  have hz0 := lt_of_block s0
  generalize bhd l o = r at *
  rcases hra with ⟨c1, c3, c4⟩ | ⟨c1, c2⟩
  · rcases h with ⟨_, _, hn0, _⟩ | ⟨B, rfl, h⟩
    · omega
    · have hB := lt_of_block h.hdr
      obtain ⟨g, off, rfl, hc⟩ := row_cells h.row (by omega)
      obtain ⟨m0, m1⟩ := hc r c1
      rw [decide_eq_true c4]
      have hle := h.row.le
      have hmost := h.row.most
      unfold maxLen at hmost
      have HH := Lib.hid (fun X => from_any (l.getD r (0, 0)) o X)
      rw [← c3] at HH
      have HM := Lib.hid (And.intro m0 m1)
      have HC := Lib.hid h
      have HBA := Lib.hid ba
      have HS0 := Lib.hid s0
      clear c3 c4 hc m0 m1 b2 b3 hlen hl h s0 ba
      generalize l.getD r (0, 0) = m at *
      generalize nextL l o = x at *
      go_enter Try.func48, Try.ntmps48
      go_wp2_with fail
      rw [← HW1.out]
      refine HB.out.mono ?_
      rintro e w2 ⟨rfl, h2⟩
      have hb2 := HBA.out.trans (h2.mono HBA.out.size)
      have s2 := HS0.out.later h2
      have k0 := cofr (HC.out.later hb2).hdr 0 _ rfl
      have k1 := kcell hb2 HM.out.1; have k2 := kcell hb2 HM.out.2
      go_wp2_with (go_at_call 78; refine (HLE.out _ hb2).mono ?_; rintro e w' ⟨rfl, rfl⟩)
      refine (HH.out _).mono ?_
      rintro e w3 ⟨rfl, h3⟩
      have hb3 := hb2.trans (h3.mono hb2.size)
      have s3 := s2.later h3
      clear k0 k1 k2
      have e0 := s3.c0; have e1 := s3.c1; have f0 := s3.f0; have f1 := s3.f1
      have s4 := s3.put x.1 x.2
      have hb4 := hb3.trans ((kput w3 w.heap.size (.int .i64 x.1) (.int .i64 x.2)).below (B := w.heap.size) (by simp) hb3.size)
      have g0 := s4.c0; have g1 := s4.c1
      clear s2 s3 s4 hb2 hb3 h2 h3
      have HB4 := Lib.hid hb4
      clear hb4
      go_wp2_with fail
      exact bodyPost_ret (v := .tuple #[.agg #[.int .i64 x.1, .int .i64 x.2], .bool true]) (by simp [results, Try.results48, go_sem, g0, g1]) rfl ⟨rfl, HB4.out⟩
  · rw [c2]
    have hnl : decide (0 < lenI ((0, 0) : Sp)) = false := by simp [lenI, fitP, mayB]
    rw [hnl]
    obtain ⟨p, rfl⟩ := h.ptr
    have HBA := Lib.hid ba
    have HS0 := Lib.hid s0
    clear c2 hnl b2 b3 hlen hl h s0 ba
    go_enter Try.func48, Try.ntmps48
    go_wp2_with fail
    rw [← HW1.out]
    refine HB.out.mono ?_
    rintro e w2 ⟨rfl, h2⟩
    have hb2 := HBA.out.trans (h2.mono HBA.out.size)
    have s3 := HS0.out.later h2
    have e0 := s3.c0; have e1 := s3.c1; have f0 := s3.f0; have f1 := s3.f1
    have s4 := s3.put 0 0
    have hb4 := hb2.trans ((kput w2 w.heap.size (.int .i64 0) (.int .i64 0)).below (B := w.heap.size) (by simp) hb2.size)
    have g0 := s4.c0; have g1 := s4.c1
    have HB2 := Lib.hid hb2
    have HB4 := Lib.hid hb4
    clear s3 s4 hb2 h2 hb4
    go_wp2_with (go_at_call 78; refine (HLE.out _ HB2.out).mono ?_; rintro e w' ⟨rfl, rfl⟩)
    exact bodyPost_ret (v := .tuple #[.agg #[.int .i64 0, .int .i64 0], .bool false]) (by simp [results, Try.results48, go_sem, g0, g1]) rfl ⟨rfl, HB4.out⟩
theorem gap_any {w : World} {v : Value} {a : Option Addr} {n cap : Nat} {l : List Sp} (h : Rv w v a n cap l) (hl : Rn l) (hn : n < 1000000000000) (o : Int) :
    Calls Try.prog 27 #[v, .int .i64 o] w (RetI (gapL l o) w) := by
  obtain ⟨p, rfl⟩ := h.ptr
  have HR := Lib.hid (run_any h hl hn (atI o))
  have HG := Lib.hid (gap_def l o)
  have hc : (o < 0 ∧ atI o = 0) ∨ (¬ o < 0 ∧ ¬ 4611686018427387904 < o ∧ atI o = o) ∨ (4611686018427387904 < o ∧ ¬ o < 0 ∧ atI o = 4611686018427387904) := by unfold atI; omega
  clear h hl hn
  generalize gapL l o = G at *
  generalize runL l (atI o) = x at *
  rcases hc with ⟨h1, h2⟩ | ⟨h1, h3, h2⟩ | ⟨h1, h3, h2⟩
  all_goals
    rw [h2] at HR HG
    clear h2
    by_cases hx : 0 < lenI x
    all_goals
      first
        | rw [if_pos hx] at HG
        | rw [if_neg hx] at HG
      first
        | rw [decide_eq_true hx] at HR
        | rw [decide_eq_false hx] at HR
      clear hx
      go_enter Try.func27, Try.ntmps27
      go_wp2_with fail
      refine HR.out.mono ?_
      rintro e w2 ⟨rfl, h2⟩
      have HB := Lib.hid (h2.trans ((bal (w := w2) (.cells #[.int .i64 x.1, .int .i64 x.2] 36)).mono h2.size))
      clear h2
      go_wp2
      go_ret
      exact ⟨congrArg (fun z => Ending.returned (.int .i64 z)) HG.out.symm, HB.out⟩
end Go.Proofs.Ytekddgmmfgpehaa.rn
/-!   Package runs: slices.Clone, slices.Equal over spans; Clone, Same.
-/
namespace Go.Proofs.Ytekddgmmfgpehaa.rn
open Go.RowKit Go.Shelf aid mem rng sp
attribute [local go_sem ↓] Go.wp_at_zero Go.wp_at_succ
set_option linter.unusedVariables false
set_option linter.unusedSimpArgs false

/-- a row of spans that is one's own -/
def RetRow (l : List Sp) (w : World) (e : Ending) (w' : World) : Prop := ∃ a' n' cap', e = .returned (.slice a' n' cap') ∧ SlR w' 36 2 a' n' cap' (spCells l) ∧ Below w.heap.size w w' ∧ ∀ b ∈ blk a' cap', w.heap.size ≤ b
set_option maxRecDepth 100000 in
set_option maxHeartbeats 1000000 in
theorem sclone_any {w : World} {a : Option Addr} {n cap : Nat} {l : List Sp} (h : SlR w 36 2 a n cap (spCells l)) (hn2 : n ≤ 1000000000000) : Calls Try.prog 71 #[.slice a n cap] w (RetRow l w) := by
  obtain ⟨i0, hi, hz0, hz1, hz2⟩ := info_split info_span
  have hle := h.le
  have hll := row_len h
  by_cases h0 : n = 0
  · obtain rfl : l = [] := List.eq_nil_of_length_eq_zero (by omega)
    subst h0
    have HF0 := Lib.hid (fun (a' : Option Addr) (W : World) (hb : Below w.heap.size w W) => show RetRow [] w (.returned (.slice a' 0 0)) W from ⟨a', 0, 0, rfl, SlR.sub0 a', hb, fun b hb => by simp [blk_zero] at hb⟩)
    cases a with
    | none =>
      have he : ∀ w : World, (binOp .eql 32 (.slice none 0 cap) (.slice none 0 0)).run Try.prog w = .ok (.bool true) w := fun _ => rfl
      go_enter Try.func71, Try.ntmps71
      go_wp2
      go_ret
      exact HF0.out _ _ (Below.refl _ _)
    | some x =>
      have he : ∀ w : World, (binOp .eql 32 (.slice (some x) 0 cap) (.slice none 0 0)).run Try.prog w = .ok (.bool false) w := fun _ => rfl
      have HS := Lib.hid (fun W => Src.ofSlice (P := Try.prog) (size := 2) W Try.underlying32 x 0 cap [] (by simp) (by intro j u hu; simp at hu) (by simp))
      go_enter Try.func71, Try.ntmps71
      go_wp2
      go_ret
      exact HF0.out _ _ (bal _)
  · obtain ⟨g, off, rfl, _⟩ := h.cell (by omega)
    have HS := Lib.hid (fun W (hb : Below w.heap.size w W) => (h.later hb).src Try.underlying32 (spCells_one l))
    clear h
    have he : ∀ w : World, (binOp .eql 32 (.slice (some ⟨g, off, none⟩) n cap) (.slice none 0 0)).run Try.prog w = .ok (.bool false) w := fun _ => rfl
    go_enter Try.func71, Try.ntmps71
    go_wp2_with (at_builtin; go_must (refine wpList_append_slr _ rfl (.tmp 5) (.tmp 6) 32 32 rfl 36 i0 (.agg #[.int .i64 0, .int .i64 0]) 2 16 Try.underlying32 hi hz0 hz1 (by decide) hz2 rfl _ 0 0 [] rfl (SlR.sub0 _) _ rfl n (by omega) (spCells l) (HS.out _ ((Below.refl _ _).alloc (Nat.le_refl _) _)) (by unfold maxLen; omega) (by omega) ?_); intro a' cap' w3 hrow hkp hat)
    go_ret
    refine ⟨a', 0 + n, cap', by simp, by simpa using hrow, (Below.refl w.heap.size w |>.alloc (Nat.le_refl _) _).trans (hkp.below (by simp [blk_zero]) (by simp)), fun b hb => ?_⟩
    rcases hat b hb with h | h
    · simp [blk_zero] at h
    · simp at h; omega
theorem sls_of {w : World} {a : Option Addr} {n cap : Nat} {l : List Sp} (h : SlR w 36 2 a n cap (spCells l)) : SlS w a n cap l := ⟨row_len h, h.le, h.most, (fun ha => by
  by_cases hc : cap = 0
  · exact hc
  · obtain ⟨g, off, cur, hx, _⟩ := h.rest (by omega)
    rw [ha] at hx
    exact absurd hx (by simp)), fun h0 => row_cells h h0⟩
theorem clone_nil (w : World) : Calls Try.prog 45 #[.pointer none] w fun e w' => e = .returned (.pointer none) ∧ w = w' := by
  go_enter Try.func45, Try.ntmps45
  go_wp2
  go_ret
  exact ⟨rfl, rfl⟩
theorem clone_any {w : World} {B : Nat} {a : Option Addr} {n cap : Nat} {l : List Sp} (h : RnAt w B a n cap l) (hn : n ≤ 1000000000000) :
    Calls Try.prog 45 #[.pointer (some ⟨B, 0, none⟩)] w (RetR l w) := by
  have c0 := cofr h.hdr 0 _ rfl
  have HC := Lib.hid (sclone_any h.row hn)
  clear h
  go_enter Try.func45, Try.ntmps45
  go_wp2_with fail
  refine HC.out.mono ?_
  rintro e w2 ⟨a', n', cap', rfl, hr2, hb2, hbl⟩
  have bb := bal (w := w2) (.cells #[.slice a' n' cap'] 90)
  have HF := Lib.hid (show RetR l w (.returned (.pointer (some ⟨w2.heap.size, 0, none⟩))) (w2.alloc (.cells #[.slice a' n' cap'] 90)) from
    ⟨_, a', n', cap', rfl, ⟨heap_alloc_new w2 _, hr2.later bb⟩, hb2.trans (bb.mono hb2.size), hb2.size, hbl⟩)
  clear hr2 hb2 hbl bb c0
  go_wp2
  go_ret
  exact HF.out
end Go.Proofs.Ytekddgmmfgpehaa.rn
/-!   slices.Grow over spans.
-/
namespace Go.Proofs.Ytekddgmmfgpehaa.rn
open Go.RowKit Go.Shelf aid mem rng sp
attribute [local go_sem ↓] Go.wp_at_zero Go.wp_at_succ
set_option linter.unusedVariables false
set_option linter.unusedSimpArgs false

def GrowPost (a : Option Addr) (n cap k : Nat) (l : List Sp) (w : World) (e : Ending) (w' : World) : Prop :=
  ∃ a' cap', e = .returned (.slice a' n cap') ∧ SlR w' 36 2 a' n cap' (spCells l) ∧ n + k ≤ cap' ∧ Below w.heap.size w w' ∧ ∀ b ∈ blk a' cap', b ∈ blk a cap ∨ w.heap.size ≤ b
set_option maxRecDepth 100000 in
theorem grow_new {w : World} {n cap cap' m : Nat} {l : List Sp} {olds Z1 : List Value} {zs : Array Value} (a : Option Addr) (k : Nat) (ho : olds.take (n * 2) = spCells l) (hol : olds.length = cap * 2) (hl : l.length = n) (hn : n ≤ cap) (hz1 : Z1.length = m * 2) (hz2 : zs.size = (cap' - (cap + m)) * 2)
    (hc : cap + m ≤ cap') (hm : cap' ≤ maxLen) (hk : n + k ≤ cap') (w' : World) (hw : w' = w.drew.alloc (.cells ((olds ++ Z1).toArray ++ zs) 36)) : GrowPost a n cap k l w (.returned (.slice (some ⟨w.heap.size, 0, none⟩) n cap')) w' := by
  subst hw
  have hx : w.drew.heap.size = w.heap.size := rfl
  refine ⟨_, cap', rfl, SlP.slr (P := []) (R := olds.drop (n * 2) ++ Z1 ++ zs.toList) ⟨?_, rfl, by rw [spCells_len, hl], by omega, hm, ?_⟩, hk, ?_, fun b hb => .inr ?_⟩
  · have := heap_alloc_new w.drew (.cells ((olds ++ Z1).toArray ++ zs) 36)
    rw [hx] at this
    rw [this]
    congr 2
    apply Array.ext'
    simp only [Array.toList_append, List.nil_append]
    rw [← ho, ← List.append_assoc, ← List.append_assoc, List.take_append_drop]
  · simp only [List.length_append, List.length_drop, spCells_len, hl, hol, hz1, Array.length_toList, hz2]
    omega
  · exact ⟨rfl, rfl, rfl, by simp, fun k hk => Below.heap_alloc w.drew _ k hk⟩
  · by_cases h0 : cap' = 0
    · subst h0; simp [blk_zero] at hb
    · rw [blk_some _ _ _ (by omega)] at hb
      simp at hb
      omega
set_option maxRecDepth 100000 in
set_option maxHeartbeats 1000000 in
theorem grow_any {w : World} {a : Option Addr} {n cap : Nat} {l : List Sp} (h : SlR w 36 2 a n cap (spCells l)) (k : Nat) (hk : n + k ≤ 100000) : Calls Try.prog 88 #[.slice a n cap, .int .i64 k] w (GrowPost a n cap k l w) := by
  obtain ⟨i0, hi, hz0, hz1, hz2⟩ := info_split info_span
  have hle := h.le
  have hmost := h.most
  have hlen := row_len h
  unfold maxLen at hmost
  by_cases hroom : n + k ≤ cap
  · have HF := Lib.hid (show GrowPost a n cap k l w (.returned (.slice a n cap)) w from ⟨a, cap, rfl, h, hroom, Below.refl _ _, fun b hb => .inl hb⟩)
    clear h
    go_enter Try.func88, Try.ntmps88
    go_wp2
    go_ret
    exact HF.out
  · obtain ⟨m, hm⟩ : ∃ m : Nat, (k : Int) - ((cap : Int) - (n : Int)) = (m : Int) := ⟨n + k - cap, by omega⟩
    have hm0 : 0 < m := by omega
    have hcm : cap + m = n + k := by omega
    have HCM := Lib.hid hcm
    have hcap : ¬ (2 ^ 63 - 1 < cap) := by omega
    have hol : ∃ olds : List Value, (Builtin.firstCells i0.size cap (.slice a cap cap)).run Try.prog w.drew = .ok olds.toArray w.drew ∧ olds.take (n * 2) = spCells l ∧ olds.length = cap * 2 := by
      by_cases h0 : cap = 0
      · subst h0
        obtain rfl : n = 0 := by omega
        obtain rfl : l = [] := List.eq_nil_of_length_eq_zero (by omega)
        refine ⟨[], ?_, rfl, rfl⟩
        cases a with
        | none => exact run_firstCells_none w.drew i0.size 0 0 0
        | some y => exact run_firstCells_some w.drew i0.size 0 y 0 0 [] (by simp) (fun j v hj => by simp at hj)
      · obtain ⟨g, off, P, R, rfl, hp⟩ := h.slp (by omega)
        have hpl := hp.p; have hpr := hp.room; have hpn := hp.len
        refine ⟨(spCells l ++ R).take (cap * 2), ?_, ?_, ?_⟩
        · refine run_firstCells_some w.drew i0.size cap ⟨g, off, none⟩ cap cap _ (by rw [List.length_take, List.length_append, hz1]; omega) (fun j v hj => ?_)
          have hj1 := (List.getElem?_eq_some_iff.1 hj).1
          rw [List.length_take] at hj1
          rw [addr_add]
          have := cell_of_row w g (off + j) _ _ (0, 0) hp.heap
          refine (show w.drew.cell? ⟨g, off + j, none⟩ = w.cell? ⟨g, off + j, none⟩ from rfl).trans (this.trans ?_)
          rw [List.getElem?_toArray, List.append_assoc, List.getElem?_append_right (by omega), ← hj, List.getElem?_take, if_pos (by omega), hpl]
          congr 1
          omega
        · rw [List.take_take, show min (n * 2) (cap * 2) = n * 2 by omega, ← hpn]
          exact List.take_left
        · rw [List.length_take, List.length_append]; omega
    obtain ⟨olds, ho1, ho2, ho3⟩ := hol
    have HG := Lib.hid (fun (cap' : Nat) (h1 : cap + m ≤ cap') (h2 : cap' ≤ maxLen) (w' : World) (hw : w' = w.drew.alloc (.cells ((olds ++ (Builtin.zeroCells (Value.cells (.agg #[.int .i64 0, .int .i64 0])) m).toList).toArray ++ Builtin.zeroCells (Value.cells (.agg #[.int .i64 0, .int .i64 0])) (cap' - (cap + m))) 36)) =>
      grow_new a k ho2 ho3 hlen hle (m := m) (by rw [Array.length_toList, size_zeroCells]; rfl) (by rw [size_zeroCells]; rfl) h1 h2 (by omega) w' hw)
    have HO := Lib.hid ho1
    clear h ho1 ho2 ho3 hlen hcm
    go_enter Try.func88, Try.ntmps88
    go_wp2_with (at_builtin; go_must (refine wpList_append_zeros _ rfl (.tmp 20) (.tmp 21) 32 3 rfl 36 i0 (.agg #[.int .i64 0, .int .i64 0]) .i64 Try.underlying32 Try.underlying3 hi hz0 (by omega) a cap cap olds rfl HO.out m rfl hm0 (by omega) (by have := HCM.out; unfold maxLen; omega) (by have := HCM.out; rw [hz2]; omega) ?_); intro cap' hc1 hc2 w3 hw3; unfold maxLen at hc2; have hnc : n ≤ cap' := by omega)
    go_ret
    exact HG.out cap' hc1 (by unfold maxLen; exact hc2) _ hw3.out
end Go.Proofs.Ytekddgmmfgpehaa.rn
/-!   slices.IndexFunc, slices.DeleteFunc over one or two spans: those that are empty go.
-/
namespace Go.Proofs.Ytekddgmmfgpehaa.rn
open Go.RowKit Go.Shelf aid mem rng sp
attribute [local go_sem ↓] Go.wp_at_zero Go.wp_at_succ
set_option linter.unusedVariables false
set_option linter.unusedSimpArgs false

set_option maxRecDepth 100000 in
theorem rep1_any (x : Sp) (w : World) : Calls Try.prog 87 #[spV x] w (RetB (decide (lenI x = 0)) w) := by
  have b1 := bal (w := w) (.cells #[.int .i64 x.1, .int .i64 x.2] 36)
  have s0 := sp_new w x
  have c0 := s0.c0; have c1 := s0.c1
  have HM := Lib.hid (len_any x (w.alloc (.cells #[.int .i64 x.1, .int .i64 x.2] 36)))
  have HB := Lib.hid b1
  clear b1 s0
  go_enter Try.func87, Try.ntmps87
  go_wp2_with (go_at_call 28; go_must (with_reducible refine HM.out.mono ?_); rintro e w3 ⟨rfl, hb3⟩)
  go_ret
  exact ⟨rfl, HB.out.trans (hb3.mono HB.out.size)⟩
set_option maxRecDepth 100000 in
theorem eg_rep1 : ∀ args w, (callFunc 87 args).run Try.prog w = .ok (.enter 87 args) w := enters_of Try.func87 (by kernel_rfl) rfl
/-- where the first empty one stands -/
def idxE (l : List Sp) : Nat := plc (fun x => decide (lenI x = 0)) l
def RetX (l : List Sp) (w : World) (e : Ending) (w' : World) : Prop := e = .returned (.int .i64 (if idxE l < l.length then (idxE l : Int) else -1)) ∧ Below w.heap.size w w'
set_option maxRecDepth 100000 in
set_option maxHeartbeats 1000000 in
theorem index_any {w : World} {a : Option Addr} {n cap : Nat} {l : List Sp} (h : SlR w 36 2 a n cap (spCells l)) (hn : n ≤ 100000) :
    Calls Try.prog 92 #[.slice a n cap, .func (.func 87) #[] #[]] w (RetX l w) := by
  have hle := h.le
  have hmost := h.most
  have hlen := row_len h
  unfold maxLen at hmost
  obtain ⟨p1, p2, p3⟩ := plc_parts (fun x => decide (lenI x = 0)) l
  have HP1 := Lib.hid (fun (k : Nat) (hk : k < n) (h : ∀ t, t < k → decide (lenI (l.getD t (0, 0)) = 0) = false) (h2 : lenI (l.getD k (0, 0)) = 0) => show (if idxE l < l.length then (idxE l : Int) else -1) = (k : Int) from by
    have e : idxE l = k := by
      unfold idxE
      rcases Nat.lt_trichotomy (plc (fun x => decide (lenI x = 0)) l) k with c | c | c
      · have a := p2 (by omega)
        have b := h _ c
        rw [b] at a; cases a
      · exact c
      · have hm : l.getD k (0, 0) ∈ l.take (plc (fun x => decide (lenI x = 0)) l) := by
          have : k < (l.take (plc (fun x => decide (lenI x = 0)) l)).length := by rw [List.length_take]; omega
          have e : (l.take (plc (fun x => decide (lenI x = 0)) l))[k] = l.getD k (0, 0) := by simp [List.getD, show k < l.length by omega]
          rw [← e]; exact List.getElem_mem _
        have := p1 _ hm
        rw [decide_eq_true h2] at this; cases this
    rw [e, if_pos (by omega)])
  have HP2 := Lib.hid (fun (h : ∀ t, t < n → decide (lenI (l.getD t (0, 0)) = 0) = false) => show (if idxE l < l.length then (idxE l : Int) else -1) = -1 from by
    rw [if_neg]
    intro c
    have a := p2 c
    have b := h (plc (fun x => decide (lenI x = 0)) l) (by unfold idxE at c; omega)
    rw [b] at a; cases a)
  have HC := Lib.hid (fun (h0 : 0 < n) => row_cells h h0)
  clear h p1 p2 p3 hlen
  go_enter Try.func92, Try.ntmps92
  go_wp2_with fail
  go_loopw [8] (fun i wr => ∃ k : Nat, k ≤ n ∧ i = .int .i64 k ∧ Below w.heap.size w wr ∧ Hid (∀ t, t < k → decide (lenI (l.getD t (0, 0)) = 0) = false)) (fun i _ => n - (intOf i).toNat)
  case atStart => exact ⟨0, Nat.zero_le _, rfl, Below.refl _ _, Lib.hid (fun t ht => by omega)⟩
  case round =>
    obtain ⟨k, hk, rfl, hb, HI⟩ := hrel
    by_cases hlt : k < n
    · obtain ⟨g, off, rfl, hc⟩ := HC.out (by omega)
      obtain ⟨m0, m1⟩ := hc k hlt
      replace m0 := kcell hb m0
      replace m1 := kcell hb m1
      have HN := Lib.hid (fun (h2 : decide (lenI (l.getD k (0, 0)) = 0) = false) => show ∀ t, t < k + 1 → decide (lenI (l.getD t (0, 0)) = 0) = false from fun t ht => by
        by_cases c : t = k
        · subst c; exact h2
        · exact HI.out t (by omega))
      have HY := Lib.hid (fun (h2 : lenI (l.getD k (0, 0)) = 0) => HP1.out k hlt HI.out h2)
      have HR := Lib.hid (rep1_any (l.getD k (0, 0)) wr)
      clear hc
      generalize l.getD k (0, 0) = m at *
      by_cases hz : lenI m = 0
      · have HE := Lib.hid (HY.out hz)
        rw [decide_eq_true hz] at HR
        clear HN HY hz
        go_wp2_with (go_at_call 87; go_must (refine HR.out.mono ?_); rintro e w' ⟨rfl, hb3⟩)
        go_ret
        exact ⟨by rw [HE.out]; rfl, hb.trans (hb3.mono hb.size)⟩
      · have HE := Lib.hid (HN.out (decide_eq_false hz))
        rw [decide_eq_false hz] at HR
        clear HN HY hz
        go_wp2_with (go_at_call 87; go_must (refine HR.out.mono ?_); rintro e w' ⟨rfl, hb3⟩)
        go_roundw
        case rel => exact ⟨k + 1, by omega, by go_num, hb.trans (hb3.mono hb.size), HE⟩
        case measure => simp [intOf]; omega
    · obtain rfl : k = n := by omega
      have HE := Lib.hid (HP2.out HI.out)
      go_wp2
      go_ret
      exact ⟨by rw [HE.out]; rfl, hb⟩

/-- what is left in the row behind a deletion -/
def DelPost (sg : Nat) (ys : List Sp) (k : Nat) (w : World) (e : Ending) (w' : World) : Prop :=
  e = .returned (.slice (some ⟨sg, 0, none⟩) ys.length k) ∧ SlR w' 36 2 (some ⟨sg, 0, none⟩) ys.length k (spCells ys) ∧ Kept [sg] w w'
set_option maxRecDepth 100000 in
theorem del_keep {w : World} {sg k : Nat} {xs : List Sp} (h : SlR w 36 2 (some ⟨sg, 0, none⟩) k k (spCells xs)) (hk : k ≤ 100000) (hx : ∀ x ∈ xs, lenI x ≠ 0) :
    Calls Try.prog 86 #[.slice (some ⟨sg, 0, none⟩) k k, .func (.func 87) #[] #[]] w (DelPost sg xs k w) := by
  have hlen := row_len h
  have HI := index_any h hk
  have e : (if idxE xs < xs.length then (idxE xs : Int) else -1) = -1 := by
    rw [if_neg]
    intro c
    obtain ⟨_, p2, _⟩ := plc_parts (fun x => decide (lenI x = 0)) xs
    have := p2 c
    exact hx _ (getD_mem c) (of_decide_eq_true this)
  have HI2 := Lib.hid (HI.mono (fun e' w' (h : RetX xs w e' w') => show e' = .returned (.int .i64 (-1)) ∧ Below w.heap.size w w' from ⟨by rw [h.1, e], h.2⟩))
  have HF := Lib.hid (fun (W : World) (hb : Below w.heap.size w W) => show DelPost sg xs k w (.returned (.slice (some ⟨sg, 0, none⟩) k k)) W from ⟨by rw [hlen], by rw [hlen]; exact h.later hb, Kept.of_below hb (Nat.le_refl _) _⟩)
  clear h HI e hx hlen
  go_enter Try.func86, Try.ntmps86
  go_wp2_with (go_at_call 92; go_must (refine HI2.out.mono ?_); rintro e w' ⟨rfl, hb3⟩)
  go_ret
  exact HF.out _ hb3
end Go.Proofs.Ytekddgmmfgpehaa.rn
/-!   slices.DeleteFunc over two spans, of which one is empty at least.
-/
namespace Go.Proofs.Ytekddgmmfgpehaa.rn
open Go.RowKit Go.Shelf aid mem rng sp
attribute [local go_sem ↓] Go.wp_at_zero Go.wp_at_succ
set_option linter.unusedVariables false
set_option linter.unusedSimpArgs false

def Row2 (w : World) (sg : Nat) (x y : Sp) : Prop := w.heap[sg]? = some (.cells #[.int .i64 x.1, .int .i64 x.2, .int .i64 y.1, .int .i64 y.2] 36 (0, 0))
set_option maxRecDepth 100000 in
theorem Row2.slr {w : World} {sg : Nat} {x y : Sp} (h : Row2 w sg x y) : SlR w 36 2 (some ⟨sg, 0, none⟩) 2 2 (spCells [x, y]) :=
  SlP.slr (P := []) (R := []) ⟨h, rfl, rfl, by simp, by decide, by simp [spCells]⟩
set_option maxRecDepth 100000 in
theorem Row2.keep {w w' : World} {sg : Nat} {x y : Sp} (h : Row2 w sg x y) (hb : Below w.heap.size w w') : Row2 w' sg x y := (hb.block _ (lt_of_block h)).trans h
set_option maxRecDepth 100000 in
theorem row2_ends {w w' : World} {sg : Nat} {x y : Sp} (h : Row2 w' sg x y) (hk : Kept [sg] w w') : DelPost sg [x] 2 w (.returned (.slice (some ⟨sg, 0, none⟩) 1 2)) w' :=
  ⟨rfl, SlP.slr (P := []) (R := [.int .i64 y.1, .int .i64 y.2]) ⟨h, rfl, rfl, by simp, by decide, by simp [spCells]⟩, hk⟩
set_option maxRecDepth 100000 in
theorem row2_none {w w' : World} {sg : Nat} {x y : Sp} (h : Row2 w' sg x y) (hk : Kept [sg] w w') : DelPost sg [] 2 w (.returned (.slice (some ⟨sg, 0, none⟩) 0 2)) w' :=
  ⟨rfl, SlP.slr (P := []) (R := [.int .i64 x.1, .int .i64 x.2, .int .i64 y.1, .int .i64 y.2]) ⟨h, rfl, rfl, by simp, by decide, by simp [spCells]⟩, hk⟩
set_option maxRecDepth 100000 in
theorem zero1 : (Builtin.zeroCells (Value.cells (.agg #[.int .i64 0, .int .i64 0])) 1).toList = [.int .i64 0, .int .i64 0] := by kernel_rfl
set_option maxRecDepth 100000 in
theorem zero2 : (Builtin.zeroCells (Value.cells (.agg #[.int .i64 0, .int .i64 0])) 2).toList = [.int .i64 0, .int .i64 0, .int .i64 0, .int .i64 0] := by kernel_rfl
set_option maxRecDepth 100000 in
theorem idx_two {x y : Sp} (hx : lenI x ≠ 0) (hy : lenI y = 0) : idxE [x, y] = 1 := by unfold idxE plc; simp [hx, hy]
set_option maxRecDepth 100000 in
theorem idx_one {x y : Sp} (hx : lenI x = 0) : idxE [x, y] = 0 := by unfold idxE plc; simp [hx]
set_option maxRecDepth 100000 in
set_option maxHeartbeats 1000000 in
theorem del_snd {w : World} {sg : Nat} {x y : Sp} (h : Row2 w sg x y) (hx : lenI x ≠ 0) (hy : lenI y = 0) :
    Calls Try.prog 86 #[.slice (some ⟨sg, 0, none⟩) 2 2, .func (.func 87) #[] #[]] w (DelPost sg [x] 2 w) := by
  obtain ⟨i0, hi, hz0, hz1, hz2⟩ := info_split info_span
  have HI := Lib.hid ((index_any h.slr (by decide)).mono (fun e' w' (h : RetX [x, y] w e' w') => show e' = .returned (.int .i64 1) ∧ Below w.heap.size w w' from ⟨by rw [h.1, idx_two hx hy]; rfl, h.2⟩))
  have HH := Lib.hid h
  clear h hx hy
  go_enter Try.func86, Try.ntmps86
  go_wp2_with fail
  refine HI.out.mono ?_
  rintro e w1 ⟨rfl, h1⟩
  have hr := HH.out.keep h1
  have HE := Lib.hid (fun W (hW : W = w1.setRow sg ([Value.int .i64 x.1, Value.int .i64 x.2] ++ [Value.int .i64 0, .int .i64 0] ++ []).toArray) => show DelPost sg [x] 2 w (.returned (.slice (some ⟨sg, 0, none⟩) 1 2)) W from by
    subst hW
    exact row2_ends (y := (0, 0)) (setRow_heap w1 sg _ _ _ _ hr) ((Kept.of_below h1 (Nat.le_refl _) [sg]).trans (kept_setRow w1 sg _) (fun x hx => .inl hx)))
  have HR := Lib.hid hr
  clear hr
  go_wp2_with fail
  go_loopw [5, 6] (fun s5 s6 wr => s5 = .int .i64 1 ∧ s6 = .int .i64 2 ∧ wr = w1) (fun _ s6 _ => 2 - (intOf s6).toNat)
  case atStart => exact ⟨rfl, rfl, rfl⟩
  case round =>
    obtain ⟨rfl, rfl, rfl⟩ := hrel
    have hcl : ∀ ty, (Builtin.clear_ #[32] ty #[.slice (some ⟨sg, 2, none⟩) 1 1]).run Try.prog wr = .ok (.tuple #[]) _ := fun ty => run_clear_p (P := Try.prog) wr 32 ty 36 i0 (.agg #[.int .i64 0, .int .i64 0]) Try.underlying32 hi hz0 sg 2 1 1 (by decide) [.int .i64 x.1, .int .i64 x.2] [.int .i64 y.1, .int .i64 y.2] [] HR.out rfl (by rw [zero1]; rfl) (by rw [zero1]; simp [Value.oneCell'])
    rw [zero1] at hcl
    clear HR
    go_wp2
    go_ret
    exact HE.out _ rfl
/-- between two rounds -/
def DRel (w : World) (sg : Nat) (x y : Sp) (ne : Bool) (i j : Nat) (wr : World) : Prop :=
  (i = 0 ∧ j = 1 ∧ Row2 wr sg x y ∧ Kept [sg] w wr) ∨ (j = 2 ∧ Kept [sg] w wr ∧ if ne = true then i = 1 ∧ Row2 wr sg y y else i = 0 ∧ Row2 wr sg x y)
set_option maxRecDepth 100000 in
set_option maxHeartbeats 1000000 in
theorem del_fst {w : World} {sg : Nat} {x y : Sp} (h : Row2 w sg x y) (hx : lenI x = 0) (hy : lenI y ≠ 0) :
    Calls Try.prog 86 #[.slice (some ⟨sg, 0, none⟩) 2 2, .func (.func 87) #[] #[]] w (DelPost sg [y] 2 w) := by
  obtain ⟨i0, hi, hz0, hz1, hz2⟩ := info_split info_span
  have HI := Lib.hid ((index_any h.slr (by decide)).mono (fun e' w' (h : RetX [x, y] w e' w') => show e' = .returned (.int .i64 0) ∧ Below w.heap.size w w' from ⟨by rw [h.1, idx_one hx]; rfl, h.2⟩))
  have HH := Lib.hid h
  have HR := Lib.hid (fun X => rep1_any y X)
  rw [decide_eq_false hy] at HR
  clear h hx hy
  go_enter Try.func86, Try.ntmps86
  go_wp2_with fail
  refine HI.out.mono ?_
  rintro e w1 ⟨rfl, h1⟩
  have HD : Hid (DRel w sg x y true 0 1 w1) := Lib.hid (.inl ⟨rfl, rfl, HH.out.keep h1, Kept.of_below h1 (Nat.le_refl _) [sg]⟩)
  clear h1
  go_wp2_with fail
  go_loopw [5, 6] (fun s5 s6 wr => ∃ i j : Nat, s5 = .int .i64 i ∧ s6 = .int .i64 j ∧ Hid (DRel w sg x y true i j wr)) (fun _ s6 _ => 2 - (intOf s6).toNat)
  case atStart => exact ⟨0, 1, rfl, rfl, HD⟩
  case round =>
    obtain ⟨i, j, rfl, rfl, HD⟩ := hrel
    rcases HD.out with ⟨rfl, rfl, hr, hk⟩ | ⟨rfl, hk, hd⟩
    · have m2 := cofr hr 2 _ rfl; have m3 := cofr hr 3 _ rfl
      have b1 := bal (w := wr) (.cells #[.int .i64 y.1, .int .i64 y.2] 36)
      have s0 := sp_new wr y
      have HB := Lib.hid (And.intro b1 s0)
      have HRK := Lib.hid (And.intro hr hk)
      have e0 := s0.c0; have e1 := s0.c1
      clear hr hk b1 s0 HD
      go_wp2_with fail
      refine (HR.out _).mono ?_
      rintro e w3 ⟨rfl, h3⟩
      obtain ⟨b1, s0⟩ := HB.out
      obtain ⟨hr, hk⟩ := HRK.out
      have b3 := b1.trans (h3.mono b1.size)
      have s3 := s0.later h3
      have r3 := hr.keep b3
      have k3 : Kept [sg] w w3 := hk.trans (Kept.of_below b3 (Nat.le_refl _) [sg]) (fun x hx => .inl hx)
      have r4 : (w3.setCell ⟨sg, 0, none⟩ (.int .i64 y.1)).heap[sg]? = some (.cells #[.int .i64 y.1, .int .i64 x.2, .int .i64 y.1, .int .i64 y.2] 36 (0, 0)) := (heap_setCell_same w3 sg 0 _ _ _ r3).trans rfl
      have r5 : ((w3.setCell ⟨sg, 0, none⟩ (.int .i64 y.1)).setCell ⟨sg, 1, none⟩ (.int .i64 y.2)).heap[sg]? = some (.cells #[.int .i64 y.1, .int .i64 y.2, .int .i64 y.1, .int .i64 y.2] 36 (0, 0)) := (heap_setCell_same _ sg 1 _ _ _ r4).trans rfl
      have k5 : Kept [sg] w ((w3.setCell ⟨sg, 0, none⟩ (.int .i64 y.1)).setCell ⟨sg, 1, none⟩ (.int .i64 y.2)) := (k3.setCell (.inl (by simp)) _).setCell (.inl (by simp)) _
      have HD2 : Hid (DRel w sg x y true 1 2 ((w3.setCell ⟨sg, 0, none⟩ (.int .i64 y.1)).setCell ⟨sg, 1, none⟩ (.int .i64 y.2))) := Lib.hid (.inr ⟨rfl, k5, rfl, r5⟩)
      have c0 := cofr r3 0 _ rfl; have c1 := cofr r3 1 _ rfl
      have f0 := fofr r3 0; have f1 := fofr r3 1
      have e0 := s3.c0; have e1 := s3.c1
      clear b1 s0 hr hk b3 s3 r3 k3 r4 r5 k5 h3 m2 m3 HB HRK
      go_wp2
      go_roundw
      case rel => exact ⟨1, 2, rfl, rfl, HD2⟩
      case measure => simp [intOf]
    · rw [if_pos rfl] at hd
      obtain ⟨rfl, hr⟩ := hd
      have HE := Lib.hid (fun W (hW : W = wr.setRow sg ([Value.int .i64 y.1, Value.int .i64 y.2] ++ [Value.int .i64 0, .int .i64 0] ++ []).toArray) => show DelPost sg [y] 2 w (.returned (.slice (some ⟨sg, 0, none⟩) 1 2)) W from by
        subst hW
        exact row2_ends (y := (0, 0)) (setRow_heap wr sg _ _ _ _ hr) (hk.trans (kept_setRow wr sg _) (fun x hx => .inl hx)))
      have HRR := Lib.hid hr
      clear hr hk HD
      have hcl : ∀ ty, (Builtin.clear_ #[32] ty #[.slice (some ⟨sg, 2, none⟩) 1 1]).run Try.prog wr = .ok (.tuple #[]) _ := fun ty => run_clear_p (P := Try.prog) wr 32 ty 36 i0 (.agg #[.int .i64 0, .int .i64 0]) Try.underlying32 hi hz0 sg 2 1 1 (by decide) [.int .i64 y.1, .int .i64 y.2] [.int .i64 y.1, .int .i64 y.2] [] HRR.out rfl (by rw [zero1]; rfl) (by rw [zero1]; simp [Value.oneCell'])
      rw [zero1] at hcl
      clear HRR
      go_wp2
      go_ret
      exact HE.out _ rfl
set_option maxRecDepth 100000 in
set_option maxHeartbeats 1000000 in
theorem del_both {w : World} {sg : Nat} {x y : Sp} (h : Row2 w sg x y) (hx : lenI x = 0) (hy : lenI y = 0) :
    Calls Try.prog 86 #[.slice (some ⟨sg, 0, none⟩) 2 2, .func (.func 87) #[] #[]] w (DelPost sg [] 2 w) := by
  obtain ⟨i0, hi, hz0, hz1, hz2⟩ := info_split info_span
  have HI := Lib.hid ((index_any h.slr (by decide)).mono (fun e' w' (h : RetX [x, y] w e' w') => show e' = .returned (.int .i64 0) ∧ Below w.heap.size w w' from ⟨by rw [h.1, idx_one hx]; rfl, h.2⟩))
  have HH := Lib.hid h
  have HR := Lib.hid (fun X => rep1_any y X)
  rw [decide_eq_true hy] at HR
  clear h hx hy
  go_enter Try.func86, Try.ntmps86
  go_wp2_with fail
  refine HI.out.mono ?_
  rintro e w1 ⟨rfl, h1⟩
  have HD : Hid (DRel w sg x y false 0 1 w1) := Lib.hid (.inl ⟨rfl, rfl, HH.out.keep h1, Kept.of_below h1 (Nat.le_refl _) [sg]⟩)
  clear h1
  go_wp2_with fail
  go_loopw [5, 6] (fun s5 s6 wr => ∃ i j : Nat, s5 = .int .i64 i ∧ s6 = .int .i64 j ∧ Hid (DRel w sg x y false i j wr)) (fun _ s6 _ => 2 - (intOf s6).toNat)
  case atStart => exact ⟨0, 1, rfl, rfl, HD⟩
  case round =>
    obtain ⟨i, j, rfl, rfl, HD⟩ := hrel
    rcases HD.out with ⟨rfl, rfl, hr, hk⟩ | ⟨rfl, hk, hd⟩
    · have m2 := cofr hr 2 _ rfl; have m3 := cofr hr 3 _ rfl
      have b1 := bal (w := wr) (.cells #[.int .i64 y.1, .int .i64 y.2] 36)
      have s0 := sp_new wr y
      have HB := Lib.hid b1
      have HRK := Lib.hid (And.intro hr hk)
      have e0 := s0.c0; have e1 := s0.c1
      clear hr hk b1 s0 HD
      go_wp2_with fail
      refine (HR.out _).mono ?_
      rintro e w3 ⟨rfl, h3⟩
      have b1 := HB.out
      obtain ⟨hr, hk⟩ := HRK.out
      have b3 := b1.trans (h3.mono b1.size)
      have HD2 : Hid (DRel w sg x y false 0 2 w3) := Lib.hid (.inr ⟨rfl, hk.trans (Kept.of_below b3 (Nat.le_refl _) [sg]) (fun x hx => .inl hx), rfl, hr.keep b3⟩)
      clear b1 hr hk b3 h3 m2 m3 HB HRK e0 e1
      go_wp2
      go_roundw
      case rel => exact ⟨0, 2, rfl, rfl, HD2⟩
      case measure => simp [intOf]
    · rw [if_neg (by simp)] at hd
      obtain ⟨rfl, hr⟩ := hd
      have HE := Lib.hid (fun W (hW : W = wr.setRow sg (([] : List Value) ++ [Value.int .i64 0, .int .i64 0, .int .i64 0, .int .i64 0] ++ []).toArray) => show DelPost sg [] 2 w (.returned (.slice (some ⟨sg, 0, none⟩) 0 2)) W from by
        subst hW
        exact row2_none (x := (0, 0)) (y := (0, 0)) (setRow_heap wr sg _ _ _ _ hr) (hk.trans (kept_setRow wr sg _) (fun x hx => .inl hx)))
      have HRR := Lib.hid hr
      clear hr hk HD
      have hcl : ∀ ty, (Builtin.clear_ #[32] ty #[.slice (some ⟨sg, 0, none⟩) 2 2]).run Try.prog wr = .ok (.tuple #[]) _ := fun ty => run_clear_p (P := Try.prog) wr 32 ty 36 i0 (.agg #[.int .i64 0, .int .i64 0]) Try.underlying32 hi hz0 sg 0 2 2 (by decide) [] [.int .i64 x.1, .int .i64 x.2, .int .i64 y.1, .int .i64 y.2] [] HRR.out rfl (by rw [zero2]; rfl) (by rw [zero2]; simp [Value.oneCell'])
      rw [zero2] at hcl
      clear HRR
      go_wp2
      go_ret
      exact HE.out _ rfl
set_option maxRecDepth 100000 in
/-- of one or two spans those go that are empty -/
theorem del_two {w : World} {sg : Nat} (x y : Sp) (h : Row2 w sg x y) :
    Calls Try.prog 86 #[.slice (some ⟨sg, 0, none⟩) 2 2, .func (.func 87) #[] #[]] w (DelPost sg (ne x ++ ne y) 2 w) := by
  unfold ne
  by_cases hx : lenI x = 0
  · by_cases hy : lenI y = 0
    · rw [if_pos hx, if_pos hy]; exact del_both h hx hy
    · rw [if_pos hx, if_neg hy]; exact del_fst h hx hy
  · by_cases hy : lenI y = 0
    · rw [if_neg hx, if_pos hy]; exact del_snd h hx hy
    · rw [if_neg hx, if_neg hy]
      exact del_keep h.slr (by decide) (by simp [hx, hy])
set_option maxRecDepth 100000 in
theorem del_one {w : World} {sg : Nat} (x : Sp) (h : SpAt w sg x) (hx : lenI x ≠ 0) :
    Calls Try.prog 86 #[.slice (some ⟨sg, 0, none⟩) 1 1, .func (.func 87) #[] #[]] w (DelPost sg [x] 1 w) :=
  del_keep (SlP.slr (P := []) (R := []) ⟨h, rfl, rfl, by simp, by decide, by simp [spCells]⟩) (by decide) (by simp [hx])
end Go.Proofs.Ytekddgmmfgpehaa.rn
/-!   Package runs: replace.
-/
namespace Go.Proofs.Ytekddgmmfgpehaa.rn
open Go.RowKit Go.Shelf aid mem rng sp
attribute [local go_sem ↓] Go.wp_at_zero Go.wp_at_succ
set_option linter.unusedVariables false
set_option linter.unusedSimpArgs false

def RepPost (B sg : Nat) (a : Option Addr) (cap : Nat) (l' : List Sp) (w : World) (e : Ending) (w' : World) : Prop :=
  (4096 < l'.length ∧ e = .returned (.int .i64 4) ∧ Kept [sg] w w') ∨ (l'.length ≤ 4096 ∧ e = .returned (.int .i64 0) ∧ ∃ a' cap', RnAt w' B a' l'.length cap' l' ∧ Kept (B :: sg :: blk a cap) w w' ∧ ∀ b ∈ blk a' cap', b ∈ blk a cap ∨ w.heap.size ≤ b)
set_option maxRecDepth 100000 in
theorem rn_ne {w : World} {B : Nat} {a a2 : Option Addr} {n cap n2 cap2 : Nat} {l : List Sp} {xs : List Value} (h : RnAt w B a n cap l) (hs : SlR w 36 2 a2 n2 cap2 xs) : B ∉ blk a2 cap2 := by
  intro hb
  obtain ⟨_, cur, hc⟩ := hs.lt B hb
  have := h.hdr
  rw [this] at hc
  simp at hc
set_option maxRecDepth 100000 in
set_option maxHeartbeats 2000000 in
theorem replace_any {w : World} {B sg k n cap f t : Nat} {a : Option Addr} {l ys : List Sp} (h : RnAt w B a n cap l) (hft : f ≤ t) (htn : t ≤ n) (hn : n ≤ 4096) (hys : ys.length ≤ 2) (hBs : B ≠ sg) (hsb : sg ∉ blk a cap) (hpos : 0 < n + ys.length) (hsz : sg < w.heap.size)
    (HD : Calls Try.prog 86 #[.slice (some ⟨sg, 0, none⟩) k k, .func (.func 87) #[] #[]] w (DelPost sg ys k w)) :
    Calls Try.prog 61 #[.pointer (some ⟨B, 0, none⟩), .int .i64 f, .int .i64 t, .slice (some ⟨sg, 0, none⟩) k k] w (RepPost B sg a cap (l.take f ++ ys ++ l.drop t) w) := by
  obtain ⟨i0, hi, hz0, hz1, hz2⟩ := info_split info_span
  have hlen := row_len h.row
  have hll : (l.take f ++ ys ++ l.drop t).length = f + ys.length + (n - t) := by simp only [List.length_append, List.length_take, List.length_drop]; omega
  have hLL : spCells (l.take f ++ ys ++ l.drop t) = (spCells l).take (f * 2) ++ spCells ys ++ (spCells l).drop (t * 2) := by rw [spCells_append, spCells_append, spTake, spDrop]
  generalize l.take f ++ ys ++ l.drop t = L' at *
  have HLC := Lib.hid hLL
  clear hLL
  obtain ⟨E, hE⟩ : ∃ E : Nat, (f : Int) + (ys.length : Int) = (E : Int) := ⟨f + ys.length, by omega⟩
  have HEN : Hid (E = f + ys.length) := Lib.hid (by omega)
  have HHD := Lib.hid HD
  have HBS := Lib.hid (And.intro hBs (And.intro hsb (rn_ne h h.row)))
  have HH := Lib.hid h
  clear HD hBs hsb
  have c0 := cofr h.hdr 0 _ rfl
  have hle := h.row.le
  have hmost := h.row.most
  unfold maxLen at hmost
  have HE2 := Lib.hid hE
  clear hlen
  by_cases hfull : 4096 < E + n - t
  · have HF := Lib.hid (fun W (hk : Kept [sg] w W) => show RepPost B sg a cap L' w (.returned (.int .i64 4)) W from .inl ⟨by rw [hll]; have := HEN.out; omega, rfl, hk⟩)
    clear h
    have hfi : 4096 < (E : Int) + (n : Int) - (t : Int) := by omega
    go_enter Try.func61, Try.ntmps61
    go_wp2_with fail
    refine HHD.out.mono ?_
    rintro e w1 ⟨rfl, hs1, hk1⟩
    have c1 := hk1.cell (p := ⟨B, 0, none⟩) (by simpa using HBS.out.1) c0
    have HK := Lib.hid hk1
    clear hs1 hk1 c0
    go_wp2
    go_ret
    exact HF.out _ HK.out
  · have hfi : ¬ 4096 < (E : Int) + (n : Int) - (t : Int) := by omega
    have HLL := Lib.hid hll
    clear h hll
    go_enter Try.func61, Try.ntmps61
    go_wp2_with fail
    refine HHD.out.mono ?_
    rintro e w1 ⟨rfl, hs1, hk1⟩
    have c1 := hk1.cell (p := ⟨B, 0, none⟩) (by simpa using HBS.out.1) c0
    have h1 : RnAt w1 B a n cap l := ⟨hk1.heap (by simpa using HBS.out.1) HH.out.hdr, HH.out.row.keep hk1 (fun b hb e => by simp at e; subst e; exact HBS.out.2.1 hb)⟩
    have HG := Lib.hid (grow_any h1.row ys.length (by omega))
    have H1 := Lib.hid (And.intro hs1 (And.intro hk1 h1))
    clear hs1 hk1 h1 c0
    go_wp2_with fail
    clear hE
    refine HG.out.mono ?_
    rintro e w5 ⟨a5, cap5, rfl, hr5, hc5, hb5, hbl5⟩
    obtain ⟨hs1, hk1, h1⟩ := H1.out
    have hm5 := hr5.most
    unfold maxLen at hm5
    obtain ⟨g, off, P, R, rfl, hp5⟩ := hr5.slp (by omega)
    have hgB : g ∈ blk (some ⟨g, off, none⟩) cap5 := by rw [blk_some _ _ _ (by omega)]; simp
    have h5 : RnAt w5 B a n cap l := h1.later hb5
    have hBg : B ≠ g := fun e => by subst e; exact rn_ne h5 hr5 hgB
    have hs5 := hs1.later hb5
    have hsg : sg ≠ g := fun e => by
      subst e
      rcases hbl5 sg hgB with q | q
      · exact HBS.out.2.1 q
      · have := hk1.size; omega
    obtain ⟨A1, B1, C1, B2, q1, q2, q3, q4, q5, q6, q7⟩ := rep_cut P (spCells l) R off n cap5 f t E ys.length hp5.p hp5.len hp5.room hft htn HEN.out hc5
    have hh5 := hp5.heap
    rw [q1] at hh5
    have hhd : w5.drew.heap[g]? = some (.cells (A1 ++ B1 ++ C1).toArray 36 (0, 0)) := hh5
    have c5 : w5.drew.cell? ⟨B, 0, none⟩ = some (.slice a n cap) := cofr h5.hdr 0 _ rfl
    have f5 : w5.drew.frozen? ⟨B, 0, none⟩ = false := fofr (show w5.drew.heap[B]? = _ from h5.hdr) 0
    have hE5 : E ≤ cap5 := by have := HEN.out; omega
    have HP5 := Lib.hid hp5
    have HXS := Lib.hid hp5.len
    have HHD5 := Lib.hid h5.hdr
    have HH5 := Lib.hid (show w5.heap[g]? = some (.cells (A1 ++ B1 ++ C1).toArray 36 (0, 0)) from hh5)
    have hkw5 : Kept [sg] w w5 := hk1.trans (Kept.of_below hb5 (Nat.le_refl _) [sg]) (fun x hx => .inl hx)
    have hgw : g ∈ blk a cap ∨ w.heap.size ≤ g := by
      rcases hbl5 g hgB with q | q
      · exact .inl q
      · exact .inr (by have := hk1.size; omega)
    have HKW := Lib.hid (And.intro hkw5 hgw)
    have HSRC := Lib.hid (fun (htn' : t < n) => show Src Try.prog 2 32 (.slice (some ⟨g, off + t * 2, none⟩) (n - t) (n - t)) (n - t) ((spCells l).drop (t * 2)) w5.drew from by
      have h := (hr5.sub t n n (by omega) (Nat.le_refl _) (Nat.le_refl _) hr5.le htn').later (Below.refl _ w5).drew
      rw [List.take_of_length_le (by rw [hp5.len]; omega)] at h
      exact h.src Try.underlying32 (fun u hu => spCells_one l u (List.mem_of_mem_drop hu)))
    have HS5 := Lib.hid hs5
    have HEND := Lib.hid (fun (w8 : World) (h8 : w8.heap[g]? = some (.cells ((P ++ (spCells l).take (f * 2)) ++ spCells ys ++ ((spCells l).drop (t * 2) ++ C1)).toArray 36 (0, 0))) (hb8 : w8.heap[B]? = some (.cells #[.slice (some ⟨g, off, none⟩) (E + (n - t)) cap5] 90 (0, 0))) (hk8 : Kept [g, B] w5 w8) =>
      show RepPost B sg a cap L' w (.returned (.int .i64 0)) w8 from by
        have hEN := HEN.out
        have hll := HLL.out
        have eN : E + (n - t) = L'.length := by omega
        have hcl := HLC.out
        refine .inr ⟨by omega, rfl, some ⟨g, off, none⟩, cap5, ⟨by rw [← eN]; exact hb8, SlP.slr (P := P) (R := C1) ⟨?_, hp5.p, by rw [spCells_len], by omega, by unfold maxLen; omega, by rw [spCells_len]; omega⟩⟩, ?_, fun b hb => ?_⟩
        · rw [h8, hcl]
          simp only [List.append_assoc]
        · refine (hkw5.mono (S' := B :: sg :: blk a cap) (fun x hx => .inl (by simp at hx; simp [hx]))).trans hk8 (fun x hx => ?_)
          simp at hx
          rcases hx with rfl | rfl
          · rcases hgw with q | q
            · exact .inl (by simp [q])
            · exact .inr q
          · exact .inl (by simp)
        · rw [blk_some _ _ _ (by omega)] at hb
          simp at hb
          subst hb
          exact hgw)
    have hBg' := hBg
    have HQ := Lib.hid (And.intro q2 (And.intro q3 (And.intro q4 (And.intro q5 q6))))
    have HBG := Lib.hid (And.intro hBg hsg)
    clear hs1 hk1 h1 hr5 hp5 HP5 h5 hs5 hh5 q1 q2 q3 q4 q5 q6 q7 hb5 hbl5 hgB hBg hsg hkw5 hgw HG c1 hBg' hfi
    by_cases htn' : t < n
    · have HSR := Lib.hid (HSRC.out htn')
      have hgo : ¬ (n - t = 0) := by omega
      have hnt : ¬ n = t := by omega
      have hnc5 : n ≤ cap5 := by omega
      go_wp2_with fail
      refine wp_region_noPanic ?_
      refine wp_region_held_drew (S := (fun _ => True)) (by kernel_rfl) ?_ (fun hHeld => ?_)
      · ((try dsimp only); all_goals trivial)
      refine wpAnyH_take (i := 0) (oi := _) (v := ?_) rfl (by kernel_rfl) (by kernel_rfl) (by kernel_rfl) (fun _ _ _ h => h) (Or.inl ⟨by rfl, ?_⟩) (by assumption) ?_
      rotate_left
      · (first | (intro v hSw; (try dsimp only at hSw); go_simp; done) | (intro v hSw; (try dsimp only at hSw); go_simp; with_reducible rfl))
      (try simp only [List.getElem_toArray, List.getElem_cons_succ, List.getElem_cons_zero, Act.put, List.setIfInBounds_toArray, List.set_cons_zero, List.set_cons_succ])
      refine wpAnyH_take (i := 1) (oi := _) (v := ?_) rfl (by kernel_rfl) (by kernel_rfl) (by kernel_rfl) (fun _ _ _ h => h) (Or.inl ⟨by rfl, ?_⟩) (by assumption) ?_
      rotate_left
      · (first | (intro v hSw; (try dsimp only at hSw); go_simp; done) | (intro v hSw; (try dsimp only at hSw); go_simp; with_reducible rfl))
      (try simp only [List.getElem_toArray, List.getElem_cons_succ, List.getElem_cons_zero, Act.put, List.setIfInBounds_toArray, List.set_cons_zero, List.set_cons_succ])
      refine wpAnyH_take (i := 2) (oi := _) (v := ?_) rfl (by kernel_rfl) (by kernel_rfl) (by kernel_rfl) (fun _ _ _ h => h) (Or.inl ⟨by rfl, ?_⟩) (by assumption) ?_
      rotate_left
      · (first | (intro v hSw; (try dsimp only at hSw); go_simp; done) | (intro v hSw; (try dsimp only at hSw); go_simp; with_reducible rfl))
      (try simp only [List.getElem_toArray, List.getElem_cons_succ, List.getElem_cons_zero, Act.put, List.setIfInBounds_toArray, List.set_cons_zero, List.set_cons_succ])
      refine wpAnyH_take (i := 3) (oi := _) (v := ?_) rfl (by kernel_rfl) (by kernel_rfl) (by kernel_rfl) (fun _ _ _ h => h) (Or.inl ⟨by rfl, ?_⟩) (by assumption) ?_
      rotate_left
      · (first | (intro v hSw; (try dsimp only at hSw); go_simp; done) | (intro v hSw; (try dsimp only at hSw); go_simp; with_reducible rfl))
      (try simp only [List.getElem_toArray, List.getElem_cons_succ, List.getElem_cons_zero, Act.put, List.setIfInBounds_toArray, List.set_cons_zero, List.set_cons_succ])
      refine wpAnyH_take (i := 4) (oi := _) (v := ?_) rfl (by kernel_rfl) (by kernel_rfl) (by kernel_rfl) (fun _ _ _ h => h) (Or.inl ⟨by rfl, ?_⟩) (by assumption) ?_
      rotate_left
      · (first | (intro v hSw; (try dsimp only at hSw); go_simp; done) | (intro v hSw; (try dsimp only at hSw); go_simp; with_reducible rfl))
      (try simp only [List.getElem_toArray, List.getElem_cons_succ, List.getElem_cons_zero, Act.put, List.setIfInBounds_toArray, List.set_cons_zero, List.set_cons_succ])
      refine wpAnyH_take (i := 5) (oi := _) (v := ?_) rfl (by kernel_rfl) (by kernel_rfl) (by kernel_rfl) (fun _ _ _ h => h) (Or.inl ⟨by rfl, ?_⟩) (by assumption) ?_
      rotate_left
      · (first | (intro v hSw; (try dsimp only at hSw); go_simp; done) | (intro v hSw; (try dsimp only at hSw); go_simp; with_reducible rfl))
      (try simp only [List.getElem_toArray, List.getElem_cons_succ, List.getElem_cons_zero, Act.put, List.setIfInBounds_toArray, List.set_cons_zero, List.set_cons_succ])
      refine wpAnyH_take (i := 6) (oi := _) (v := ?_) rfl (by kernel_rfl) (by kernel_rfl) (by kernel_rfl) (fun _ _ _ h => h) (Or.inl ⟨by rfl, ?_⟩) (by assumption) ?_
      rotate_left
      · (first | (intro v hSw; (try dsimp only at hSw); go_simp; done) | (intro v hSw; (try dsimp only at hSw); go_simp; with_reducible rfl))
      (try simp only [List.getElem_toArray, List.getElem_cons_succ, List.getElem_cons_zero, Act.put, List.setIfInBounds_toArray, List.set_cons_zero, List.set_cons_succ])
      refine wpAnyH_take (i := 7) (oi := _) (v := ?_) rfl (by kernel_rfl) (by kernel_rfl) (by kernel_rfl) (fun _ _ _ h => h) (Or.inl ⟨by rfl, ?_⟩) (by assumption) ?_
      rotate_left
      · (first | (intro v hSw; (try dsimp only at hSw); go_simp; done) | (intro v hSw; (try dsimp only at hSw); go_simp; with_reducible rfl))
      (try simp only [List.getElem_toArray, List.getElem_cons_succ, List.getElem_cons_zero, Act.put, List.setIfInBounds_toArray, List.set_cons_zero, List.set_cons_succ])
      refine wpAnyH_take (i := 8) (oi := _) (v := ?_) rfl (by kernel_rfl) (by kernel_rfl) (by kernel_rfl) (fun _ _ _ h => h) (Or.inl ⟨by rfl, ?_⟩) (by assumption) ?_
      rotate_left
      · (first | (intro v hSw; (try dsimp only at hSw); go_simp; done) | (intro v hSw; (try dsimp only at hSw); go_simp; with_reducible rfl))
      (try simp only [List.getElem_toArray, List.getElem_cons_succ, List.getElem_cons_zero, Act.put, List.setIfInBounds_toArray, List.set_cons_zero, List.set_cons_succ])
      refine wpAnyH_ready (rs := [9]) (by kernel_rfl) (by simp) ?_
      refine AllReadyH.cons (o := _) rfl (fun K hK => ?_) AllReadyH.nil
      refine step_append_q _ rfl (.tmp 39) (.tmp 44) 32 32 rfl 36 i0 2 Try.underlying32 hi hz1 g off E cap5 A1 B1 C1 rfl hhd HQ.out.1 _ rfl (n - t) ((spCells l).drop (t * 2)) HSR.out HQ.out.2.1 (by have := HEN.out; omega) ?_
      intro w6 hw6 hk6
      have c6 := hk6.cell (p := ⟨B, 0, none⟩) (by simpa using HBG.out.1) c5
      have f6 : w6.frozen? ⟨B, 0, none⟩ = false := (hk6.frozen (p := ⟨B, 0, none⟩) (by simpa using HBG.out.1) c5).trans f5
      refine hK.out _ _ ?_ (fun hHeld => ?_)
      · ((try dsimp only); all_goals trivial)
      clear hK K
      (try simp only [List.getElem_toArray, List.getElem_cons_succ, List.getElem_cons_zero, Act.put, List.setIfInBounds_toArray, List.set_cons_zero, List.set_cons_succ])
      refine wpAnyH_take (i := 10) (oi := _) (v := ?_) rfl (by kernel_rfl) (by kernel_rfl) (by kernel_rfl) (fun _ _ _ h => h) (Or.inl ⟨by rfl, ?_⟩) (by assumption) ?_
      rotate_left
      · (first | (intro v hSw; (try dsimp only at hSw); go_simp; done) | (intro v hSw; (try dsimp only at hSw); go_simp; with_reducible rfl))
      (try simp only [List.getElem_toArray, List.getElem_cons_succ, List.getElem_cons_zero, Act.put, List.setIfInBounds_toArray, List.set_cons_zero, List.set_cons_succ])
      refine wpAnyH_take (i := 11) (oi := _) (v := ?_) rfl (by kernel_rfl) (by kernel_rfl) (by kernel_rfl) (fun _ _ _ h => h) (Or.inl ⟨by rfl, ?_⟩) (by assumption) ?_
      rotate_left
      · (first | (intro v hSw; (try dsimp only at hSw); go_simp; done) | (intro v hSw; (try dsimp only at hSw); go_simp; with_reducible rfl))
      (try simp only [List.getElem_toArray, List.getElem_cons_succ, List.getElem_cons_zero, Act.put, List.setIfInBounds_toArray, List.set_cons_zero, List.set_cons_succ])
      refine wpAnyH_ready (rs := [12]) (by kernel_rfl) (by simp) ?_
      refine AllReadyH.cons (o := _) rfl (fun K hK => ?_) AllReadyH.nil
      go_simp
      refine hK.out _ _ ?_ (fun hHeld => ?_)
      · ((try dsimp only); all_goals trivial)
      clear hK K
      (try simp only [List.getElem_toArray, List.getElem_cons_succ, List.getElem_cons_zero, Act.put, List.setIfInBounds_toArray, List.set_cons_zero, List.set_cons_succ])
      refine wpAnyH_done (by kernel_rfl) ?_ _
      refine NoPanic.normal ?_
      have hk56 : Kept [g] w5 w6 := ⟨hk6.os, hk6.tape, hk6.output, hk6.size, hk6.block⟩
      have hB6 : w6.heap[B]? = some (.cells #[.slice a n cap] 90 (0, 0)) := hk56.heap (by simpa using HBG.out.1) HHD5.out
      have hB7 : (w6.setCell ⟨B, 0, none⟩ (.slice (some ⟨g, off, none⟩) (E + (n - t)) cap5)).heap[B]? = some (.cells #[.slice (some ⟨g, off, none⟩) (E + (n - t)) cap5] 90 (0, 0)) := (heap_setCell_same w6 B 0 _ _ _ hB6).trans rfl
      have hg7 : (w6.setCell ⟨B, 0, none⟩ (.slice (some ⟨g, off, none⟩) (E + (n - t)) cap5)).heap[g]? = some (.cells (A1 ++ (spCells l).drop (t * 2) ++ C1).toArray 36 (0, 0)) := (Below.heap_setCell w6 ⟨B, 0, none⟩ _ g (by have := HBG.out.1; simp; omega)).trans hw6.out
      have hk7 : Kept [g, B] w5 (w6.setCell ⟨B, 0, none⟩ (.slice (some ⟨g, off, none⟩) (E + (n - t)) cap5)) := (hk56.mono (S' := [g, B]) (fun x hx => .inl (by simp at hx; simp [hx]))).setCell (.inl (by simp)) _
      have hs7 : SlR (w6.setCell ⟨B, 0, none⟩ (.slice (some ⟨g, off, none⟩) (E + (n - t)) cap5)) 36 2 (some ⟨sg, 0, none⟩) ys.length k (spCells ys) := HS5.out.keep hk7 (fun b hb hm => by
        by_cases hk0 : k = 0
        · subst hk0; simp [blk_zero] at hb
        · rw [blk_some _ _ _ (by omega)] at hb
          simp at hb
          subst hb
          simp at hm
          rcases hm with hm | hm
          · exact HBG.out.2 hm
          · exact HBS.out.1 hm.symm)
      have c7 := cofr hB7 0 _ rfl
      have H7 := Lib.hid (And.intro hB7 (And.intro hg7 (And.intro hk7 hs7)))
      clear hk56 hB6 hB7 hg7 hk7 hs7 c5 f5 hhd hw6 hk6
      have hEN' : E ≤ E + (n - t) := by omega
      have hNc : E + (n - t) ≤ cap5 := by have := HEN.out; omega
      have hfE : f ≤ E := by have := HEN.out; omega
      by_cases hm : 0 < ys.length
      · have HSY := Lib.hid (H7.out.2.2.2.src Try.underlying32 (spCells_one ys))
        have hg8 : (w6.setCell ⟨B, 0, none⟩ (.slice (some ⟨g, off, none⟩) (E + (n - t)) cap5)).heap[g]? = some (.cells ((P ++ (spCells l).take (f * 2)) ++ B2 ++ ((spCells l).drop (t * 2) ++ C1)).toArray 36 (0, 0)) := by
          have := H7.out.2.1
          rw [HQ.out.2.2.1] at this
          rw [this]
          simp only [List.append_assoc]
        have HG8 := Lib.hid hg8
        have hEf : E - f = ys.length := by have := HEN.out; omega
        have hfE' : ¬ (E - f = 0) := by omega
        generalize ys.length = m at *
        obtain rfl : m = E - f := hEf.symm
        clear hg8 hEf
        have hlt2 : f < E := by omega
        go_wp2_with ((refine wpList_copy_q _ rfl (.tmp 55) (.tmp 56) 32 32 rfl 36 i0 2 Try.underlying32 hi hz1 g (off + f * 2) (E - f) (E - f) (P ++ (spCells l).take (f * 2)) B2 ((spCells l).drop (t * 2) ++ C1) rfl HG8.out HQ.out.2.2.2.2 (.slice (some ⟨sg, 0, none⟩) (E - f) k) rfl (spCells ys) HSY.out HQ.out.2.2.2.1 ?_); intro w8 hw8 hk8)
        go_ret
        refine HEND.out _ hw8.out (hk8.heap (by simpa using HBG.out.1) H7.out.1) (H7.out.2.2.1.trans hk8 (fun x hx => .inl (by simp at hx; simp [hx])))
      · obtain rfl : ys = [] := List.eq_nil_of_length_eq_zero (by omega)
        have hB2 : B2 = [] := List.eq_nil_of_length_eq_zero (by have := HQ.out.2.2.2.1; simpa using this)
        have hg8 : (w6.setCell ⟨B, 0, none⟩ (.slice (some ⟨g, off, none⟩) (E + (n - t)) cap5)).heap[g]? = some (.cells ((P ++ (spCells l).take (f * 2)) ++ spCells [] ++ ((spCells l).drop (t * 2) ++ C1)).toArray 36 (0, 0)) := by
          have := H7.out.2.1
          rw [HQ.out.2.2.1, hB2] at this
          rw [this]
          simp [spCells, List.append_assoc]
        have HFIN := Lib.hid (HEND.out _ hg8 H7.out.1 H7.out.2.2.1)
        have hEf : E = f := by have := HEN.out; simpa using this
        clear HEND H7 HQ hg8 hB2 HS5 HLL HLC HEN HE2
        obtain rfl := hEf
        go_wp2_with ((refine wpList_copy_p0 _ rfl (.tmp 55) (.tmp 56) 32 32 rfl 36 i0 Try.underlying32 hi (some ⟨g, off, none⟩) 0 (some ⟨sg, 0, none⟩) 0 k rfl rfl ?_))
        go_ret
        exact HFIN.out
    · obtain rfl : n = t := by omega
      have hdr : (spCells l).drop (n * 2) = [] := List.drop_eq_nil_of_le (by rw [HXS.out]; omega)
      simp only [Nat.sub_self, Nat.add_zero, hdr] at HEND HQ HLL
      clear hdr
      have HSR := Lib.hid ((SlR.sub0 (some ⟨g, off, none⟩) : SlR w5.drew 36 2 (some ⟨g, off, none⟩) 0 0 []).src (P := Try.prog) Try.underlying32 (fun u hu => by simp at hu))
      have hnc5 : n ≤ cap5 := by omega
      clear htn'
      go_wp2_with fail
      refine wp_region_noPanic ?_
      refine wp_region_held_drew (S := (fun _ => True)) (by kernel_rfl) ?_ (fun hHeld => ?_)
      · ((try dsimp only); all_goals trivial)
      refine wpAnyH_take (i := 0) (oi := _) (v := ?_) rfl (by kernel_rfl) (by kernel_rfl) (by kernel_rfl) (fun _ _ _ h => h) (Or.inl ⟨by rfl, ?_⟩) (by assumption) ?_
      rotate_left
      · (first | (intro v hSw; (try dsimp only at hSw); go_simp; done) | (intro v hSw; (try dsimp only at hSw); go_simp; with_reducible rfl))
      (try simp only [List.getElem_toArray, List.getElem_cons_succ, List.getElem_cons_zero, Act.put, List.setIfInBounds_toArray, List.set_cons_zero, List.set_cons_succ])
      refine wpAnyH_take (i := 1) (oi := _) (v := ?_) rfl (by kernel_rfl) (by kernel_rfl) (by kernel_rfl) (fun _ _ _ h => h) (Or.inl ⟨by rfl, ?_⟩) (by assumption) ?_
      rotate_left
      · (first | (intro v hSw; (try dsimp only at hSw); go_simp; done) | (intro v hSw; (try dsimp only at hSw); go_simp; with_reducible rfl))
      (try simp only [List.getElem_toArray, List.getElem_cons_succ, List.getElem_cons_zero, Act.put, List.setIfInBounds_toArray, List.set_cons_zero, List.set_cons_succ])
      refine wpAnyH_take (i := 2) (oi := _) (v := ?_) rfl (by kernel_rfl) (by kernel_rfl) (by kernel_rfl) (fun _ _ _ h => h) (Or.inl ⟨by rfl, ?_⟩) (by assumption) ?_
      rotate_left
      · (first | (intro v hSw; (try dsimp only at hSw); go_simp; done) | (intro v hSw; (try dsimp only at hSw); go_simp; with_reducible rfl))
      (try simp only [List.getElem_toArray, List.getElem_cons_succ, List.getElem_cons_zero, Act.put, List.setIfInBounds_toArray, List.set_cons_zero, List.set_cons_succ])
      refine wpAnyH_take (i := 3) (oi := _) (v := ?_) rfl (by kernel_rfl) (by kernel_rfl) (by kernel_rfl) (fun _ _ _ h => h) (Or.inl ⟨by rfl, ?_⟩) (by assumption) ?_
      rotate_left
      · (first | (intro v hSw; (try dsimp only at hSw); go_simp; done) | (intro v hSw; (try dsimp only at hSw); go_simp; with_reducible rfl))
      (try simp only [List.getElem_toArray, List.getElem_cons_succ, List.getElem_cons_zero, Act.put, List.setIfInBounds_toArray, List.set_cons_zero, List.set_cons_succ])
      refine wpAnyH_take (i := 4) (oi := _) (v := ?_) rfl (by kernel_rfl) (by kernel_rfl) (by kernel_rfl) (fun _ _ _ h => h) (Or.inl ⟨by rfl, ?_⟩) (by assumption) ?_
      rotate_left
      · (first | (intro v hSw; (try dsimp only at hSw); go_simp; done) | (intro v hSw; (try dsimp only at hSw); go_simp; with_reducible rfl))
      (try simp only [List.getElem_toArray, List.getElem_cons_succ, List.getElem_cons_zero, Act.put, List.setIfInBounds_toArray, List.set_cons_zero, List.set_cons_succ])
      refine wpAnyH_take (i := 5) (oi := _) (v := ?_) rfl (by kernel_rfl) (by kernel_rfl) (by kernel_rfl) (fun _ _ _ h => h) (Or.inl ⟨by rfl, ?_⟩) (by assumption) ?_
      rotate_left
      · (first | (intro v hSw; (try dsimp only at hSw); go_simp; done) | (intro v hSw; (try dsimp only at hSw); go_simp; with_reducible rfl))
      (try simp only [List.getElem_toArray, List.getElem_cons_succ, List.getElem_cons_zero, Act.put, List.setIfInBounds_toArray, List.set_cons_zero, List.set_cons_succ])
      refine wpAnyH_take (i := 6) (oi := _) (v := ?_) rfl (by kernel_rfl) (by kernel_rfl) (by kernel_rfl) (fun _ _ _ h => h) (Or.inl ⟨by rfl, ?_⟩) (by assumption) ?_
      rotate_left
      · (first | (intro v hSw; (try dsimp only at hSw); go_simp; done) | (intro v hSw; (try dsimp only at hSw); go_simp; with_reducible rfl))
      (try simp only [List.getElem_toArray, List.getElem_cons_succ, List.getElem_cons_zero, Act.put, List.setIfInBounds_toArray, List.set_cons_zero, List.set_cons_succ])
      refine wpAnyH_take (i := 7) (oi := _) (v := ?_) rfl (by kernel_rfl) (by kernel_rfl) (by kernel_rfl) (fun _ _ _ h => h) (Or.inl ⟨by rfl, ?_⟩) (by assumption) ?_
      rotate_left
      · (first | (intro v hSw; (try dsimp only at hSw); go_simp; done) | (intro v hSw; (try dsimp only at hSw); go_simp; with_reducible rfl))
      (try simp only [List.getElem_toArray, List.getElem_cons_succ, List.getElem_cons_zero, Act.put, List.setIfInBounds_toArray, List.set_cons_zero, List.set_cons_succ])
      refine wpAnyH_take (i := 8) (oi := _) (v := ?_) rfl (by kernel_rfl) (by kernel_rfl) (by kernel_rfl) (fun _ _ _ h => h) (Or.inl ⟨by rfl, ?_⟩) (by assumption) ?_
      rotate_left
      · (first | (intro v hSw; (try dsimp only at hSw); go_simp; done) | (intro v hSw; (try dsimp only at hSw); go_simp; with_reducible rfl))
      (try simp only [List.getElem_toArray, List.getElem_cons_succ, List.getElem_cons_zero, Act.put, List.setIfInBounds_toArray, List.set_cons_zero, List.set_cons_succ])
      refine wpAnyH_ready (rs := [9]) (by kernel_rfl) (by simp) ?_
      refine AllReadyH.cons (o := _) rfl (fun K hK => ?_) AllReadyH.nil
      refine step_append_q _ rfl (.tmp 39) (.tmp 44) 32 32 rfl 36 i0 2 Try.underlying32 hi hz1 g off E cap5 A1 B1 C1 rfl hhd HQ.out.1 _ rfl 0 (([] : List Value)) HSR.out HQ.out.2.1 (by have := HEN.out; omega) ?_
      intro w6 hw6 hk6
      have c6 := hk6.cell (p := ⟨B, 0, none⟩) (by simpa using HBG.out.1) c5
      have f6 : w6.frozen? ⟨B, 0, none⟩ = false := (hk6.frozen (p := ⟨B, 0, none⟩) (by simpa using HBG.out.1) c5).trans f5
      refine hK.out _ _ ?_ (fun hHeld => ?_)
      · ((try dsimp only); all_goals trivial)
      clear hK K
      (try simp only [List.getElem_toArray, List.getElem_cons_succ, List.getElem_cons_zero, Act.put, List.setIfInBounds_toArray, List.set_cons_zero, List.set_cons_succ])
      refine wpAnyH_take (i := 10) (oi := _) (v := ?_) rfl (by kernel_rfl) (by kernel_rfl) (by kernel_rfl) (fun _ _ _ h => h) (Or.inl ⟨by rfl, ?_⟩) (by assumption) ?_
      rotate_left
      · (first | (intro v hSw; (try dsimp only at hSw); go_simp; done) | (intro v hSw; (try dsimp only at hSw); go_simp; with_reducible rfl))
      (try simp only [List.getElem_toArray, List.getElem_cons_succ, List.getElem_cons_zero, Act.put, List.setIfInBounds_toArray, List.set_cons_zero, List.set_cons_succ])
      refine wpAnyH_take (i := 11) (oi := _) (v := ?_) rfl (by kernel_rfl) (by kernel_rfl) (by kernel_rfl) (fun _ _ _ h => h) (Or.inl ⟨by rfl, ?_⟩) (by assumption) ?_
      rotate_left
      · (first | (intro v hSw; (try dsimp only at hSw); go_simp; done) | (intro v hSw; (try dsimp only at hSw); go_simp; with_reducible rfl))
      (try simp only [List.getElem_toArray, List.getElem_cons_succ, List.getElem_cons_zero, Act.put, List.setIfInBounds_toArray, List.set_cons_zero, List.set_cons_succ])
      refine wpAnyH_ready (rs := [12]) (by kernel_rfl) (by simp) ?_
      refine AllReadyH.cons (o := _) rfl (fun K hK => ?_) AllReadyH.nil
      go_simp
      refine hK.out _ _ ?_ (fun hHeld => ?_)
      · ((try dsimp only); all_goals trivial)
      clear hK K
      (try simp only [List.getElem_toArray, List.getElem_cons_succ, List.getElem_cons_zero, Act.put, List.setIfInBounds_toArray, List.set_cons_zero, List.set_cons_succ])
      refine wpAnyH_done (by kernel_rfl) ?_ _
      refine NoPanic.normal ?_
      have hk56 : Kept [g] w5 w6 := ⟨hk6.os, hk6.tape, hk6.output, hk6.size, hk6.block⟩
      have hB6 : w6.heap[B]? = some (.cells #[.slice a n cap] 90 (0, 0)) := hk56.heap (by simpa using HBG.out.1) HHD5.out
      have hB7 : (w6.setCell ⟨B, 0, none⟩ (.slice (some ⟨g, off, none⟩) (E) cap5)).heap[B]? = some (.cells #[.slice (some ⟨g, off, none⟩) (E) cap5] 90 (0, 0)) := (heap_setCell_same w6 B 0 _ _ _ hB6).trans rfl
      have hg7 : (w6.setCell ⟨B, 0, none⟩ (.slice (some ⟨g, off, none⟩) (E) cap5)).heap[g]? = some (.cells (A1 ++ ([] : List Value) ++ C1).toArray 36 (0, 0)) := (Below.heap_setCell w6 ⟨B, 0, none⟩ _ g (by have := HBG.out.1; simp; omega)).trans hw6.out
      have hk7 : Kept [g, B] w5 (w6.setCell ⟨B, 0, none⟩ (.slice (some ⟨g, off, none⟩) (E) cap5)) := (hk56.mono (S' := [g, B]) (fun x hx => .inl (by simp at hx; simp [hx]))).setCell (.inl (by simp)) _
      have hs7 : SlR (w6.setCell ⟨B, 0, none⟩ (.slice (some ⟨g, off, none⟩) (E) cap5)) 36 2 (some ⟨sg, 0, none⟩) ys.length k (spCells ys) := HS5.out.keep hk7 (fun b hb hm => by
        by_cases hk0 : k = 0
        · subst hk0; simp [blk_zero] at hb
        · rw [blk_some _ _ _ (by omega)] at hb
          simp at hb
          subst hb
          simp at hm
          rcases hm with hm | hm
          · exact HBG.out.2 hm
          · exact HBS.out.1 hm.symm)
      have c7 := cofr hB7 0 _ rfl
      have H7 := Lib.hid (And.intro hB7 (And.intro hg7 (And.intro hk7 hs7)))
      clear hk56 hB6 hB7 hg7 hk7 hs7 c5 f5 hhd hw6 hk6
      have hEN' : E ≤ E := Nat.le_refl _
      have hNc : E ≤ cap5 := by have := HEN.out; omega
      have hfE : f ≤ E := by have := HEN.out; omega
      by_cases hm : 0 < ys.length
      · have HSY := Lib.hid (H7.out.2.2.2.src Try.underlying32 (spCells_one ys))
        have hg8 : (w6.setCell ⟨B, 0, none⟩ (.slice (some ⟨g, off, none⟩) (E) cap5)).heap[g]? = some (.cells ((P ++ (spCells l).take (f * 2)) ++ B2 ++ (([] : List Value) ++ C1)).toArray 36 (0, 0)) := by
          have := H7.out.2.1
          rw [HQ.out.2.2.1] at this
          rw [this]
          simp only [List.append_assoc]
        have HG8 := Lib.hid hg8
        have hEf : E - f = ys.length := by have := HEN.out; omega
        have hfE' : ¬ (E - f = 0) := by omega
        generalize ys.length = m at *
        obtain rfl : m = E - f := hEf.symm
        clear hg8 hEf
        have hlt2 : f < E := by omega
        go_wp2_with ((refine wpList_copy_q _ rfl (.tmp 55) (.tmp 56) 32 32 rfl 36 i0 2 Try.underlying32 hi hz1 g (off + f * 2) (E - f) (E - f) (P ++ (spCells l).take (f * 2)) B2 (([] : List Value) ++ C1) rfl HG8.out HQ.out.2.2.2.2 (.slice (some ⟨sg, 0, none⟩) (E - f) k) rfl (spCells ys) HSY.out HQ.out.2.2.2.1 ?_); intro w8 hw8 hk8)
        go_ret
        refine HEND.out _ hw8.out (hk8.heap (by simpa using HBG.out.1) H7.out.1) (H7.out.2.2.1.trans hk8 (fun x hx => .inl (by simp at hx; simp [hx])))
      · obtain rfl : ys = [] := List.eq_nil_of_length_eq_zero (by omega)
        have hB2 : B2 = [] := List.eq_nil_of_length_eq_zero (by have := HQ.out.2.2.2.1; simpa using this)
        have hg8 : (w6.setCell ⟨B, 0, none⟩ (.slice (some ⟨g, off, none⟩) (E) cap5)).heap[g]? = some (.cells ((P ++ (spCells l).take (f * 2)) ++ spCells [] ++ (([] : List Value) ++ C1)).toArray 36 (0, 0)) := by
          have := H7.out.2.1
          rw [HQ.out.2.2.1, hB2] at this
          rw [this]
          simp [spCells, List.append_assoc]
        have HFIN := Lib.hid (HEND.out _ hg8 H7.out.1 H7.out.2.2.1)
        have hEf : E = f := by have := HEN.out; simpa using this
        clear HEND H7 HQ hg8 hB2 HS5 HLL HLC HEN HE2
        obtain rfl := hEf
        go_wp2_with ((refine wpList_copy_p0 _ rfl (.tmp 55) (.tmp 56) 32 32 rfl 36 i0 Try.underlying32 hi (some ⟨g, off, none⟩) 0 (some ⟨sg, 0, none⟩) 0 k rfl rfl ?_))
        go_ret
        exact HFIN.out
end Go.Proofs.Ytekddgmmfgpehaa.rn
