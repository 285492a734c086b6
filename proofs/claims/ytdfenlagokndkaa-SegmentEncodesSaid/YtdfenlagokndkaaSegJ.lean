/-
  Layer 5: Decode of what is not fine; the reference's Check; what must come of fixed calls.
-/
import Derived.Test.YtdfenlagokndkaaSegH
import Derived.Test.YtdfenlagokndkaaSegS
import Derived.Test.YtdfenlagokndkaaSegZ
import Derived.Test.YtdfenlagokndkaaRef2
namespace Go.Proofs.Ytdfenlagokndkaa.sg
open Go.RowKit aid mem oc op sm
set_option linter.unusedVariables false

set_option maxRecDepth 100000 in
set_option maxHeartbeats 1600000 in
theorem sdecode_bad (l : List Int) (x : Option Addr) (k c : Nat) (w : World) (hs : SlA .u8 w x k c l) (hb : Bd l) (h8 : 8 ≤ k) (hm : k ≤ 2096) (hne : sumB l ≠ 65535) :
    Calls Try.prog 21 #[.slice x k c] w fun e w' => e = .returned (.tuple #[segV Seg.zero none 0 0 none 0 0, .int .i64 7]) ∧ Below w.heap.size w w' := by
  have hfine : fineB l = false := by unfold fineB; simpa using hne
  have HW := Lib.hid (fun W h => whole_any x k c l W h hb h8 hm)
  rw [hfine] at HW
  have HE : Hid ((if false = true then (0 : Int) else 7) = 7) := Lib.hid rfl
  rw [HE.out] at HW
  have hz := seg_new w Seg.zero none 0 0 none 0 0
  have b1 := bal (w := w) (.cells #[.int .i64 0, .int .u32 0, .int .i64 0, .bool false, .bool false, .int .u32 0, .int .u32 0, .bool false, .int .i64 0, .slice none 0 0, .slice none 0 0] 28)
  have hs1 := hs.later b1
  simp only [Seg.zero, Opt.zero] at hz b1 hs1 ⊢
  clear hs hb hfine hne HE
  go_enter Try.func21, Try.ntmps21
  go_wp2_with fail
  refine (HW.out _ hs1).mono ?_
  rintro e w2 ⟨rfl, h2⟩
  have z2 : SegAt w2 w.heap.size Seg.zero none 0 0 none 0 0 := (Kept.of_below h2 (Nat.le_refl _) []).heap (by simp) hz
  have b2 := b1.trans (h2.mono b1.size)
  have zz := z2.cs
  have zf := z2.fz
  simp only [Seg.zero, Opt.zero] at zz
  obtain ⟨d0, d1, d2, d3, d4, d5, d6, d7, d8, d9, d10⟩ := zz
  have f0 := zf 0
  have f1 := zf 1
  have f2 := zf 2
  have f3 := zf 3
  have f4 := zf 4
  have f5 := zf 5
  have f6 := zf 6
  have f7 := zf 7
  have f8 := zf 8
  have f9 := zf 9
  have f10 := zf 10
  have HZ := Lib.hid z2
  clear hz hs1 h2 b1 zf z2
  go_wp2_with fail
  have z6 := HZ.out
  unfold SegAt at z6
  simp only [Seg.zero, Opt.zero] at z6
  generalize hR : w.heap.size = R at *
  have HR := Lib.hid hR
  clear hR
  have g0 : (w2.setCell ⟨R, 0, none⟩ (.int .i64 0)).heap[R]? = some (.cells #[.int .i64 0, .int .u32 0, .int .i64 0, .bool false, .bool false, .int .u32 0, .int .u32 0, .bool false, .int .i64 0, .slice none 0 0, .slice none 0 0] 28 (0, 0)) := (heap_setCell_same _ R 0 _ _ _ z6).trans rfl
  have g1 : ((w2.setCell ⟨R, 0, none⟩ (.int .i64 0)).setCell ⟨R, 1, none⟩ (.int .u32 0)).heap[R]? = some (.cells #[.int .i64 0, .int .u32 0, .int .i64 0, .bool false, .bool false, .int .u32 0, .int .u32 0, .bool false, .int .i64 0, .slice none 0 0, .slice none 0 0] 28 (0, 0)) := (heap_setCell_same _ R 1 _ _ _ g0).trans rfl
  have g2 : (((w2.setCell ⟨R, 0, none⟩ (.int .i64 0)).setCell ⟨R, 1, none⟩ (.int .u32 0)).setCell ⟨R, 2, none⟩ (.int .i64 0)).heap[R]? = some (.cells #[.int .i64 0, .int .u32 0, .int .i64 0, .bool false, .bool false, .int .u32 0, .int .u32 0, .bool false, .int .i64 0, .slice none 0 0, .slice none 0 0] 28 (0, 0)) := (heap_setCell_same _ R 2 _ _ _ g1).trans rfl
  have g3 : ((((w2.setCell ⟨R, 0, none⟩ (.int .i64 0)).setCell ⟨R, 1, none⟩ (.int .u32 0)).setCell ⟨R, 2, none⟩ (.int .i64 0)).setCell ⟨R, 3, none⟩ (.bool false)).heap[R]? = some (.cells #[.int .i64 0, .int .u32 0, .int .i64 0, .bool false, .bool false, .int .u32 0, .int .u32 0, .bool false, .int .i64 0, .slice none 0 0, .slice none 0 0] 28 (0, 0)) := (heap_setCell_same _ R 3 _ _ _ g2).trans rfl
  have g4 : (((((w2.setCell ⟨R, 0, none⟩ (.int .i64 0)).setCell ⟨R, 1, none⟩ (.int .u32 0)).setCell ⟨R, 2, none⟩ (.int .i64 0)).setCell ⟨R, 3, none⟩ (.bool false)).setCell ⟨R, 4, none⟩ (.bool false)).heap[R]? = some (.cells #[.int .i64 0, .int .u32 0, .int .i64 0, .bool false, .bool false, .int .u32 0, .int .u32 0, .bool false, .int .i64 0, .slice none 0 0, .slice none 0 0] 28 (0, 0)) := (heap_setCell_same _ R 4 _ _ _ g3).trans rfl
  have g5 : ((((((w2.setCell ⟨R, 0, none⟩ (.int .i64 0)).setCell ⟨R, 1, none⟩ (.int .u32 0)).setCell ⟨R, 2, none⟩ (.int .i64 0)).setCell ⟨R, 3, none⟩ (.bool false)).setCell ⟨R, 4, none⟩ (.bool false)).setCell ⟨R, 5, none⟩ (.int .u32 0)).heap[R]? = some (.cells #[.int .i64 0, .int .u32 0, .int .i64 0, .bool false, .bool false, .int .u32 0, .int .u32 0, .bool false, .int .i64 0, .slice none 0 0, .slice none 0 0] 28 (0, 0)) := (heap_setCell_same _ R 5 _ _ _ g4).trans rfl
  have g6 : (((((((w2.setCell ⟨R, 0, none⟩ (.int .i64 0)).setCell ⟨R, 1, none⟩ (.int .u32 0)).setCell ⟨R, 2, none⟩ (.int .i64 0)).setCell ⟨R, 3, none⟩ (.bool false)).setCell ⟨R, 4, none⟩ (.bool false)).setCell ⟨R, 5, none⟩ (.int .u32 0)).setCell ⟨R, 6, none⟩ (.int .u32 0)).heap[R]? = some (.cells #[.int .i64 0, .int .u32 0, .int .i64 0, .bool false, .bool false, .int .u32 0, .int .u32 0, .bool false, .int .i64 0, .slice none 0 0, .slice none 0 0] 28 (0, 0)) := (heap_setCell_same _ R 6 _ _ _ g5).trans rfl
  have g7 : ((((((((w2.setCell ⟨R, 0, none⟩ (.int .i64 0)).setCell ⟨R, 1, none⟩ (.int .u32 0)).setCell ⟨R, 2, none⟩ (.int .i64 0)).setCell ⟨R, 3, none⟩ (.bool false)).setCell ⟨R, 4, none⟩ (.bool false)).setCell ⟨R, 5, none⟩ (.int .u32 0)).setCell ⟨R, 6, none⟩ (.int .u32 0)).setCell ⟨R, 7, none⟩ (.bool false)).heap[R]? = some (.cells #[.int .i64 0, .int .u32 0, .int .i64 0, .bool false, .bool false, .int .u32 0, .int .u32 0, .bool false, .int .i64 0, .slice none 0 0, .slice none 0 0] 28 (0, 0)) := (heap_setCell_same _ R 7 _ _ _ g6).trans rfl
  have g8 : (((((((((w2.setCell ⟨R, 0, none⟩ (.int .i64 0)).setCell ⟨R, 1, none⟩ (.int .u32 0)).setCell ⟨R, 2, none⟩ (.int .i64 0)).setCell ⟨R, 3, none⟩ (.bool false)).setCell ⟨R, 4, none⟩ (.bool false)).setCell ⟨R, 5, none⟩ (.int .u32 0)).setCell ⟨R, 6, none⟩ (.int .u32 0)).setCell ⟨R, 7, none⟩ (.bool false)).setCell ⟨R, 8, none⟩ (.int .i64 0)).heap[R]? = some (.cells #[.int .i64 0, .int .u32 0, .int .i64 0, .bool false, .bool false, .int .u32 0, .int .u32 0, .bool false, .int .i64 0, .slice none 0 0, .slice none 0 0] 28 (0, 0)) := (heap_setCell_same _ R 8 _ _ _ g7).trans rfl
  have g9 : ((((((((((w2.setCell ⟨R, 0, none⟩ (.int .i64 0)).setCell ⟨R, 1, none⟩ (.int .u32 0)).setCell ⟨R, 2, none⟩ (.int .i64 0)).setCell ⟨R, 3, none⟩ (.bool false)).setCell ⟨R, 4, none⟩ (.bool false)).setCell ⟨R, 5, none⟩ (.int .u32 0)).setCell ⟨R, 6, none⟩ (.int .u32 0)).setCell ⟨R, 7, none⟩ (.bool false)).setCell ⟨R, 8, none⟩ (.int .i64 0)).setCell ⟨R, 9, none⟩ (.slice none 0 0)).heap[R]? = some (.cells #[.int .i64 0, .int .u32 0, .int .i64 0, .bool false, .bool false, .int .u32 0, .int .u32 0, .bool false, .int .i64 0, .slice none 0 0, .slice none 0 0] 28 (0, 0)) := (heap_setCell_same _ R 9 _ _ _ g8).trans rfl
  have g10 : (((((((((((w2.setCell ⟨R, 0, none⟩ (.int .i64 0)).setCell ⟨R, 1, none⟩ (.int .u32 0)).setCell ⟨R, 2, none⟩ (.int .i64 0)).setCell ⟨R, 3, none⟩ (.bool false)).setCell ⟨R, 4, none⟩ (.bool false)).setCell ⟨R, 5, none⟩ (.int .u32 0)).setCell ⟨R, 6, none⟩ (.int .u32 0)).setCell ⟨R, 7, none⟩ (.bool false)).setCell ⟨R, 8, none⟩ (.int .i64 0)).setCell ⟨R, 9, none⟩ (.slice none 0 0)).setCell ⟨R, 10, none⟩ (.slice none 0 0)).heap[R]? = some (.cells #[.int .i64 0, .int .u32 0, .int .i64 0, .bool false, .bool false, .int .u32 0, .int .u32 0, .bool false, .int .i64 0, .slice none 0 0, .slice none 0 0] 28 (0, 0)) := (heap_setCell_same _ R 10 _ _ _ g9).trans rfl
  have hk : Kept [R] w2 _ := ((((((((((((Kept.refl [R] w2).setCell (p := ⟨R, 0, none⟩) (.inl (by simp)) (.int .i64 0)).setCell (p := ⟨R, 1, none⟩) (.inl (by simp)) (.int .u32 0)).setCell (p := ⟨R, 2, none⟩) (.inl (by simp)) (.int .i64 0)).setCell (p := ⟨R, 3, none⟩) (.inl (by simp)) (.bool false)).setCell (p := ⟨R, 4, none⟩) (.inl (by simp)) (.bool false)).setCell (p := ⟨R, 5, none⟩) (.inl (by simp)) (.int .u32 0)).setCell (p := ⟨R, 6, none⟩) (.inl (by simp)) (.int .u32 0)).setCell (p := ⟨R, 7, none⟩) (.inl (by simp)) (.bool false)).setCell (p := ⟨R, 8, none⟩) (.inl (by simp)) (.int .i64 0)).setCell (p := ⟨R, 9, none⟩) (.inl (by simp)) (.slice none 0 0)).setCell (p := ⟨R, 10, none⟩) (.inl (by simp)) (.slice none 0 0))
  have e0 := (cell_of_row _ R 0 _ _ (0, 0) g10).trans (show _ = some _ from rfl)
  have e1 := (cell_of_row _ R 1 _ _ (0, 0) g10).trans (show _ = some _ from rfl)
  have e2 := (cell_of_row _ R 2 _ _ (0, 0) g10).trans (show _ = some _ from rfl)
  have e3 := (cell_of_row _ R 3 _ _ (0, 0) g10).trans (show _ = some _ from rfl)
  have e4 := (cell_of_row _ R 4 _ _ (0, 0) g10).trans (show _ = some _ from rfl)
  have e5 := (cell_of_row _ R 5 _ _ (0, 0) g10).trans (show _ = some _ from rfl)
  have e6 := (cell_of_row _ R 6 _ _ (0, 0) g10).trans (show _ = some _ from rfl)
  have e7 := (cell_of_row _ R 7 _ _ (0, 0) g10).trans (show _ = some _ from rfl)
  have e8 := (cell_of_row _ R 8 _ _ (0, 0) g10).trans (show _ = some _ from rfl)
  have e9 := (cell_of_row _ R 9 _ _ (0, 0) g10).trans (show _ = some _ from rfl)
  have e10 := (cell_of_row _ R 10 _ _ (0, 0) g10).trans (show _ = some _ from rfl)
  exact bodyPost_ret (v := .tuple #[.agg #[.int .i64 0, .int .u32 0, .int .i64 0, .bool false, .bool false, .int .u32 0, .int .u32 0, .bool false, .int .i64 0, .slice none 0 0, .slice none 0 0], .int .i64 7]) (by simp [results, Try.results21, go_sem, e0, e1, e2, e3, e4, e5, e6, e7, e8, e9, e10]) rfl ⟨rfl, b2.trans (hk.below (by simp) (by have := b2.size; have := HR.out; omega))⟩

set_option maxRecDepth 100000 in
set_option maxHeartbeats 1600000 in
theorem rscheck_any (s : Seg) (a : Option Addr) (n cap : Nat) (b : Option Addr) (m bc : Nat) (w : World) (hl : BlA w a n cap s.o.bl) (hb : SlA .u8 w b m bc s.body) :
    Calls Try.prog 17 #[segV s a n cap b m bc] w (RetE (schk s) w) := by
  have M0 := sm_new w s a n cap b m bc hl hb
  have HC := Lib.hid (fun W h1 => rchk_any s.o a n cap W h1)
  unfold optCells at HC
  have h1 := hb.len
  have h2 := hl.len
  have hle := hb.le
  have hmo := hb.most
  have hle2 := hl.le
  have hmo2 := hl.most
  unfold maxLen at hmo hmo2
  have H : Hid (schk s = if knownB s.kind = false then 8 else if chk s.o ≠ 0 then chk s.o else if (if s.kind = 1 then decide (0 < m) && decide (n = 0) else decide (m = 0)) = false then 6 else if 2048 < m then 9 else 0) := Lib.hid (by unfold schk suitB; rw [h1, h2])
  generalize schk s = r at *
  clear hl hb h1 h2
  by_cases hkn : s.kind = 1 ∨ s.kind = 2
  · have hk1 : knownB s.kind = true := by unfold knownB; rcases hkn with h | h <;> simp [h]
    by_cases hc : chk s.o = 0
    · have HR : Hid (r = if (if s.kind = 1 then decide (0 < m) && decide (n = 0) else decide (m = 0)) = false then 6 else if 2048 < m then 9 else 0) := Lib.hid (by rw [H.out, if_neg (by rw [hk1]; simp), if_neg (by simpa using hc)])
      rw [hc] at HC
      clear H hc hk1
      rcases hkn with hk | hk
      · have HR' : Hid (r = if (decide (0 < m) && decide (n = 0)) = false then 6 else if 2048 < m then 9 else 0) := Lib.hid (by rw [HR.out, if_pos hk])
        have t1 : (s.kind != 1) = false := by simp [hk]
        have t2 : (s.kind == 1) = true := by simp [hk]
        have t3 : (s.kind == 2) = false := by simp [hk]
        clear HR hk
        go_enter Try.func17, Try.ntmps17
        go_wp2_with fail
        generalize hB : w.heap.size = B at M0
        have HB := Lib.hid hB
        clear hB
        obtain ⟨c0, c1, c2, c3, c4, c5, c6, c7, c8, c9, c10⟩ := M0.at_.cs
        refine (HC.out _ M0.bl).mono ?_
        rintro e w1 ⟨rfl, h1⟩
        have M1 := M0.later h1
        clear M0 h1 c0 c1 c2 c3 c4 c5 c6 c7 c8 c9 c10
        rw [HB.out] at *
        obtain ⟨c0, c1, c2, c3, c4, c5, c6, c7, c8, c9, c10⟩ := M1.at_.cs
        go_wp2
        all_goals
          go_ret
          exact ⟨ret_i (by rw [HR'.out]; (repeat' split) <;> first | rfl | (simp at * <;> omega) | omega), M1.below⟩
      · have HR' : Hid (r = if decide (m = 0) = false then 6 else if 2048 < m then 9 else 0) := Lib.hid (by rw [HR.out, if_neg (show ¬ s.kind = 1 by omega)])
        have t1 : (s.kind != 1) = true := by simp [hk]
        have t4 : (s.kind != 2) = false := by simp [hk]
        have t2 : (s.kind == 1) = false := by simp [hk]
        have t3 : (s.kind == 2) = true := by simp [hk]
        clear HR hk
        by_cases hm : m = 0
        · have HQ : Hid (r = 0) := Lib.hid (by rw [HR'.out, if_neg (by simp [hm]), if_neg (by omega)])
          subst hm
          clear HR'
          go_enter Try.func17, Try.ntmps17
          go_wp2_with fail
          generalize hB : w.heap.size = B at M0
          have HB := Lib.hid hB
          clear hB
          obtain ⟨c0, c1, c2, c3, c4, c5, c6, c7, c8, c9, c10⟩ := M0.at_.cs
          refine (HC.out _ M0.bl).mono ?_
          rintro e w1 ⟨rfl, h1⟩
          have M1 := M0.later h1
          clear M0 h1 c0 c1 c2 c3 c4 c5 c6 c7 c8 c9 c10
          rw [HB.out] at *
          obtain ⟨c0, c1, c2, c3, c4, c5, c6, c7, c8, c9, c10⟩ := M1.at_.cs
          go_wp2
          go_ret
          exact ⟨ret_i HQ.out.symm, M1.below⟩
        · have HQ : Hid (r = 6) := Lib.hid (by rw [HR'.out, if_pos (by simp [hm])])
          have hm1 : 0 < m := by omega
          clear HR' hm
          go_enter Try.func17, Try.ntmps17
          go_wp2_with fail
          generalize hB : w.heap.size = B at M0
          have HB := Lib.hid hB
          clear hB
          obtain ⟨c0, c1, c2, c3, c4, c5, c6, c7, c8, c9, c10⟩ := M0.at_.cs
          refine (HC.out _ M0.bl).mono ?_
          rintro e w1 ⟨rfl, h1⟩
          have M1 := M0.later h1
          clear M0 h1 c0 c1 c2 c3 c4 c5 c6 c7 c8 c9 c10
          rw [HB.out] at *
          obtain ⟨c0, c1, c2, c3, c4, c5, c6, c7, c8, c9, c10⟩ := M1.at_.cs
          go_wp2
          go_ret
          exact ⟨ret_i HQ.out.symm, M1.below⟩
    · have HR : Hid (r = chk s.o) := Lib.hid (by rw [H.out, if_neg (by rw [hk1]; simp), if_pos hc])
      have hc1 : (chk s.o != 0) = true := by simpa using hc
      generalize chk s.o = co at *
      clear H hc hk1
      rcases hkn with hk | hk
      · have t1 : (s.kind != 1) = false := by simp [hk]
        clear hk
        go_enter Try.func17, Try.ntmps17
        go_wp2_with fail
        refine (HC.out _ M0.bl).mono ?_
        rintro e w1 ⟨rfl, h1⟩
        have M1 := M0.later h1
        clear M0 h1
        go_wp2
        go_ret
        exact ⟨ret_i HR.out.symm, M1.below⟩
      · have t1 : (s.kind != 1) = true := by simp [hk]
        have t4 : (s.kind != 2) = false := by simp [hk]
        clear hk
        go_enter Try.func17, Try.ntmps17
        go_wp2_with fail
        refine (HC.out _ M0.bl).mono ?_
        rintro e w1 ⟨rfl, h1⟩
        have M1 := M0.later h1
        clear M0 h1
        go_wp2
        go_ret
        exact ⟨ret_i HR.out.symm, M1.below⟩
  · have hk1 : knownB s.kind = false := by unfold knownB; simp; omega
    have HR : Hid (r = 8) := Lib.hid (by rw [H.out, if_pos hk1])
    have t1 : (s.kind != 1) = true := by simp; omega
    have t4 : (s.kind != 2) = true := by simp; omega
    clear hkn hk1 H
    go_enter Try.func17, Try.ntmps17
    go_wp2
    go_ret
    exact ⟨ret_i HR.out.symm, M0.below⟩
end Go.Proofs.Ytdfenlagokndkaa.sg
