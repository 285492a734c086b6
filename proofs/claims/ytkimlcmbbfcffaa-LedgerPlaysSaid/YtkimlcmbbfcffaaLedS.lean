/-
  The reference's Again and Dup.
-/
import Derived.Test.YtkimlcmbbfcffaaLedR
namespace Go.Proofs.Ytkimlcmbbfcffaa.lg
open Go.RowKit Go.Shelf aid mem sp rn
attribute [local go_sem ↓] Go.wp_at_zero Go.wp_at_succ
set_option linter.unusedVariables false
set_option linter.unusedSimpArgs false

theorem kept_nil {S : List Nat} {w w' : World} (h : Kept S w w') (hS : S = []) : Below w.heap.size w w' := h.below (by rw [hS]; simp) (Nat.le_refl _)
set_option maxRecDepth 100000 in
set_option maxHeartbeats 4000000 in
theorem ragain_any {w : World} {x : Ld} {a : Option Addr} {n cap : Nat} (h : SlR w 32 2 a n cap (spCells x.l)) (hn : n ≤ 256) (s : Sp) : Calls Try.prog 22 #[rV x a n cap, spV s] w (RetA (againX x s) (.int .i64 (againE x s)) (blk a cap) w) := by
  have HR := Lib.hid (r3_new h s)
  have hlen := row_len h
  have hX : Hid (againE x s = (if lenI s = 0 then 3 else if 256 ≤ n then 4 else 0) ∧ againX x s = (if lenI s = 0 then x else if 256 ≤ n then ⟨x.op, x.cw, x.th, x.l, true⟩ else ⟨x.op, x.cw, x.th, x.l ++ [s], x.sp⟩)) := Lib.hid (by rw [← hlen]; exact ⟨rfl, rfl⟩)
  rw [hX.out.1, hX.out.2]
  clear hX
  have HLW := Lib.hid (rlen_any s)
  generalize lenI s = z at *
  have hle := h.le
  have hmost := h.most
  unfold maxLen at hmost
  have HB := Lib.hid (fun b (hb : b ∈ blk a cap) => (h.lt b hb).1)
  clear h hlen
  obtain ⟨c0, c1⟩ := And.intro HR.out.bs.c0 HR.out.bs.c1
  by_cases hz : z = 0
  · rw [if_pos hz, if_pos hz]
    subst hz
    go_enter Try.func22, Try.ntmps22
    go_wp2_with (go_at_call 18; go_must (with_reducible refine (HLW.out _).mono ?_); rintro e w2 ⟨rfl, hb2⟩; have R := HR.out.later hb2; clear c0 c1 hb2; obtain ⟨r0, r1, r2, r3, r4⟩ := st_of R.b0; obtain ⟨z0, z1, z2, z3, z4⟩ := st_of R.rs; obtain ⟨f0, f1, f2, f3, f4⟩ := fz_of R.rs; have HF := Lib.hid (R.fin (S := blk a cap) (fun b hb => .inl hb)); clear R)
    obtain ⟨y0, y1, y2, y3, y4⟩ := st_of HF.out.1
    exact bodyPost_ret (v := .tuple #[rV x a n cap, .int .i64 3]) (by simp [results, Try.results22, go_sem, y0, y1, y2, y3, y4]) rfl ⟨a, n, cap, rfl, HF.out.2⟩
  rw [if_neg hz, if_neg hz]
  by_cases h256 : 256 ≤ n
  · rw [if_pos h256, if_pos h256]
    go_enter Try.func22, Try.ntmps22
    go_upto_region 4 with (go_at_call 18; go_must (with_reducible refine (HLW.out _).mono ?_); rintro e w2 ⟨rfl, hb2⟩; have R := HR.out.later hb2; clear c0 c1 hb2; obtain ⟨r0, r1, r2, r3, r4⟩ := st_of R.b0)
    have g4 := fofr R.b0 4
    have R4 := R.put (x' := ⟨x.op, x.cw, x.th, x.l, true⟩) 4 (.bool true) rfl R.row
    go_upto_region 5 with fail
    clear r0 r1 r2 r3 r4 g4 R HR
    generalize w2.setCell ⟨w.heap.size, 4, none⟩ (.bool true) = V at *
    obtain ⟨r0, r1, r2, r3, r4⟩ := st_of R4.b0; obtain ⟨z0, z1, z2, z3, z4⟩ := st_of R4.rs; obtain ⟨f0, f1, f2, f3, f4⟩ := fz_of R4.rs
    have HF := Lib.hid (R4.fin (S := blk a cap) (fun b hb => .inl hb))
    clear R4
    go_wp2_with fail
    obtain ⟨y0, y1, y2, y3, y4⟩ := st_of HF.out.1
    exact bodyPost_ret (v := .tuple #[rV ⟨x.op, x.cw, x.th, x.l, true⟩ a n cap, .int .i64 4]) (by simp [results, Try.results22, go_sem, y0, y1, y2, y3, y4]) rfl ⟨a, n, cap, rfl, HF.out.2⟩
  rw [if_neg h256, if_neg h256]
  obtain ⟨i0, hi, hz0, hz1, hz2⟩ := info_split info_span
  go_enter Try.func22, Try.ntmps22
  go_upto_region 6 with (go_at_call 18; go_must (with_reducible refine (HLW.out _).mono ?_); rintro e w2 ⟨rfl, hb2⟩; have R := HR.out.later hb2; clear c0 c1 hb2; obtain ⟨r0, r1, r2, r3, r4⟩ := st_of R.b0)
  clear r0 r1 r2 r4 HR HLW
  have hb3 := bal (w := w2) (.cells #[] 32)
  have R3' := R.later hb3
  have HV := Lib.hid (show w.heap.size + 1 + 1 < w2.heap.size from lt_of_block R.rs)
  have HSRC := Lib.hid (R3'.row.src Try.underlying26 (spCells_one _))
  have HRR := Lib.hid R3'
  have r3' := (st_of R3'.b0).2.2.2.1
  clear R R3' hb3
  go_upto_region 7 with (at_builtin; go_must (refine wpList_append_slr0 _ rfl (.tmp 17) (.tmp 19) 26 26 rfl 32 i0 (.agg #[.int .i64 0, .int .i64 0]) 2 16 Try.underlying26 hi hz0 hz1 (by decide) hz2 rfl w2.heap.size 0 0 0 [] rfl (SlR.sub0 _) _ rfl n (spCells x.l) HSRC.out (by unfold maxLen; omega) (by omega) ?_); intro a1 cap1 w3 hrow hkp hat)
  have hbe := kept_nil hkp (blk_zero _)
  have R := HRR.out.later hbe
  have HAT := Lib.hid (fun b (hb : b ∈ blk a1 cap1) => show w.heap.size + 1 + 1 < b ∧ w2.heap.size ≤ b from by
    rcases hat b hb with q | q
    · simp [blk_zero] at q
    · have := HV.out; have : w2.heap.size ≤ (w2.alloc (.cells #[] 32)).heap.size := by simp
      omega)
  have HBL := Lib.hid (show ∀ b ∈ blk a cap, b < w2.heap.size from fun b hb => by have := HB.out b hb; have := HV.out; omega)
  clear hkp hat HRR HSRC r3 r3'
  rw [Nat.zero_add] at hrow
  simp only [List.nil_append, Nat.zero_add] at hrow ⊢
  have hb4 := bal (w := w3) (.cells #[.int .i64 s.1, .int .i64 s.2] 32)
  have RA := R.later hb4
  have HROW := Lib.hid (hrow.later hb4)
  have HSRC := Lib.hid (span_src w3 s)
  have c0 := R.bs.c0; have c1 := R.bs.c1
  have HRA := Lib.hid RA
  have HB4 := Lib.hid hb4
  clear hrow RA hb4 R
  go_upto_region 8 with (at_builtin; go_must (refine wpList_append_slr _ rfl (.tmp 21) (.tmp 23) 26 26 rfl 32 i0 (.agg #[.int .i64 0, .int .i64 0]) 2 16 Try.underlying26 hi hz0 hz1 (by decide) hz2 rfl a1 n cap1 (spCells x.l) rfl HROW.out _ rfl 1 (by decide) [.int .i64 s.1, .int .i64 s.2] HSRC.out (by unfold maxLen; omega) (by omega) ?_); intro a2 cap2 w5 hrow2 hk2 hat2; have R := HRA.out.kept hk2 (fun b hb => (HAT.out b hb).1) (fun b hb e => by have := HBL.out b hb; have := (HAT.out b e).2; omega); obtain ⟨r0, r1, r2, r3, r4⟩ := st_of R.b0; have g3 := fofr R.b0 3)
  have R4 := R.put (x' := ⟨x.op, x.cw, x.th, x.l ++ [s], x.sp⟩) 3 (.slice a2 (n + 1) cap2) rfl (by rw [spCells_snoc]; exact hrow2)
  have HS4 := Lib.hid (show ∀ b ∈ blk a2 cap2, b ∈ blk a cap ∨ w.heap.size ≤ b from fun b hb => by
    rcases hat2 b hb with q | q
    · have := (HAT.out b q).1; exact .inr (by omega)
    · have := HB4.out.size
      have := HV.out
      have h3 : w2.heap.size ≤ w3.heap.size := by have := hbe.size; simp at this; omega
      exact .inr (by omega))
  clear r0 r1 r2 r3 r4 g3 R hrow2 hk2 hat2 HRA HROW HSRC c0 c1
  generalize w5.setCell ⟨w.heap.size, 3, none⟩ (.slice a2 (n + 1) cap2) = V at *
  obtain ⟨r0, r1, r2, r3, r4⟩ := st_of R4.b0; obtain ⟨z0, z1, z2, z3, z4⟩ := st_of R4.rs; obtain ⟨f0, f1, f2, f3, f4⟩ := fz_of R4.rs
  have HF := Lib.hid (R4.fin (S := blk a cap) HS4.out)
  clear R4
  go_wp2_with fail
  obtain ⟨y0, y1, y2, y3, y4⟩ := st_of HF.out.1
  exact bodyPost_ret (v := .tuple #[rV ⟨x.op, x.cw, x.th, x.l ++ [s], x.sp⟩ a2 (n + 1) cap2, .int .i64 0]) (by simp [results, Try.results22, go_sem, y0, y1, y2, y3, y4]) rfl ⟨a2, n + 1, cap2, rfl, HF.out.2⟩
end Go.Proofs.Ytkimlcmbbfcffaa.lg
