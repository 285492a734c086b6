/-
  Layer 15's law: does, Calm (written by gen_rakd.py).
-/
import Derived.Test.YtfaaamlhkmmamaaRakD
namespace Go.Proofs.Ytfaaamlhkmmamaa.rk
open Go.RowKit aid mem bk
attribute [local go_sem ↓] Go.wp_at_zero Go.wp_at_succ
set_option linter.unusedVariables false
set_option linter.unusedSimpArgs false

set_option maxRecDepth 100000 in
set_option maxHeartbeats 4000000 in
theorem does_calm {w : World} {X : Nat} {x : Rk} (h : RkAt w X x) (ho : Ok x) {s : OpV} (hs : OpOk s) (h2 : ¬ s.kind % 4 = 2) (h3 : s.kind % 4 = 3) : Calls Try.prog 11 #[.pointer (some ⟨X, 0, none⟩), rkV x, .agg (opC s)] w (DoesP w X x s) := by
  have hD := d0_new h s
  obtain ⟨⟨k0, k1⟩, hs1, hs2, hs3, hs4, hs5, hv⟩ := hs
  have HV := Lib.hid hv
  have HO := Lib.hid ho
  clear h ho hs1 hs2 hs3 hs4 hs5 hv
  have HD := Lib.hid hD
  obtain ⟨o0, o1, o2, o3, o4, o5, o6, o7, o8, o9, o10, o11, o12, o13, o14⟩ := op_cs hD.op
  obtain ⟨r0, r1, r2, r3, r4, r5, r6, r7⟩ := r8 hD.b0
  clear hD
  unfold DoesP
  have HS : Hid (stp x s = calm x) := Lib.hid (by unfold stp; rw [if_neg h2, if_pos h3])
  rw [HS.out]
  clear HS
  generalize hy : calm x = y
  have HY := Lib.hid hy
  clear hy
  go_enter Try.func11, Try.ntmps11
  go_wp2_with (first
    | (go_at_call 27; (with_reducible refine (calm_any HD.out.rk HO.out).mono ?_); rw [HY.out]; rintro e w1 ⟨⟨v, rfl⟩, q1, q2⟩; have R := HD.out.wrote q1 q2; clear HD q1 q2 o0 o1 o2 o3 o4 o5 o6 o7 o8 o9 o10 o11 o12 o13 o14 r0 r1 r2 r3 r4 r5 r6 r7; obtain ⟨r0, r1, r2, r3, r4, r5, r6, r7⟩ := r8 R.b0)
    | (go_at_call 35; (with_reducible refine (rcalm_any HO.out _).mono ?_); rw [HY.out]; rintro e w2 ⟨rfl, q1⟩; replace R := R.later q1; clear q1 r0 r1 r2 r3 r4 r5 r6 r7; have HE := R.end_ y; obtain ⟨r0, r1, r2, r3, r4, r5, r6, r7⟩ := r8 R.rs; have f0 := fofr R.rs 0; have f1 := fofr R.rs 1; have f2 := fofr R.rs 2; have f3 := fofr R.rs 3; have f4 := fofr R.rs 4; have f5 := fofr R.rs 5; have f6 := fofr R.rs 6; have f7 := fofr R.rs 7))
  obtain ⟨y0, y1, y2, y3, y4, y5, y6, y7⟩ := r8 HE.out.1
  have HFIN := Lib.hid HE.out.2
  exact bodyPost_ret (v := .tuple #[rkV y, .bool true]) (by simp [results, Try.results11, go_sem, y0, y1, y2, y3, y4, y5, y6, y7]) rfl ⟨rfl, HFIN.out.1, HFIN.out.2⟩
end Go.Proofs.Ytfaaamlhkmmamaa.rk
