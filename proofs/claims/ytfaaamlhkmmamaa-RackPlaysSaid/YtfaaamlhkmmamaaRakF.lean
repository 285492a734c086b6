/-
  Layer 15's law: does, Came out of bounds (written by gen_rakd.py).
-/
import Derived.Test.YtfaaamlhkmmamaaRakD
namespace Go.Proofs.Ytfaaamlhkmmamaa.rk
open Go.RowKit aid mem bk
attribute [local go_sem ↓] Go.wp_at_zero Go.wp_at_succ
set_option linter.unusedVariables false
set_option linter.unusedSimpArgs false

theorem skip_end {w : World} {X : Nat} {x : Rk} (h : RkAt w X x) (s : OpV) (z : Rk) : Hid ((((w.alloc (rkO x)).alloc (opO s)).alloc (rkO z)).heap[w.heap.size + 1 + 1]? = some (rkO z) ∧ RkAt (((w.alloc (rkO x)).alloc (opO s)).alloc (rkO z)) X x ∧ Kept [X] w (((w.alloc (rkO x)).alloc (opO s)).alloc (rkO z))) := by
  have b := al3 w (rkO x) (opO s) (rkO z)
  have y := heap_alloc_new ((w.alloc (rkO x)).alloc (opO s)) (rkO z)
  have e : ((w.alloc (rkO x)).alloc (opO s)).heap.size = w.heap.size + 1 + 1 := by simp
  rw [e] at y
  exact Lib.hid ⟨y, h.later b, Kept.of_below b (Nat.le_refl _) _⟩
set_option maxRecDepth 100000 in
set_option maxHeartbeats 1000000 in
theorem does_skip {w : World} {X : Nat} {x : Rk} (h : RkAt w X x) (ho : Ok x) {s : OpV} (hs : OpOk s) (h2 : ¬ s.kind % 4 = 2) (h3 : ¬ s.kind % 4 = 3) (hc : s.r.sent < 0 ∨ 4611686018427387904 < s.r.sent ∨ s.now < 0 ∨ 4611686018427387904 < s.now) : Calls Try.prog 11 #[.pointer (some ⟨X, 0, none⟩), rkV x, .agg (opC s)] w (DoesP w X x s) := by
  have HE := skip_end h s x
  have hD := d0_new h s
  obtain ⟨⟨k0, k1⟩, hs1, hs2, hs3, hs4, hs5, hv⟩ := hs
  have HV := Lib.hid hv
  have HO := Lib.hid ho
  clear h ho hs1 hs2 hs3 hs4 hs5 hv
  have HD := Lib.hid hD
  obtain ⟨o0, o1, o2, o3, o4, o5, o6, o7, o8, o9, o10, o11, o12, o13, o14⟩ := op_cs hD.op
  obtain ⟨r0, r1, r2, r3, r4, r5, r6, r7⟩ := r8 hD.b0
  clear hD
  unfold DoesP
  have HS : Hid (stp x s = x) := Lib.hid (by unfold stp; rw [if_neg h2, if_neg h3, if_pos hc])
  rw [HS.out]
  clear HS
  have HR := Lib.hid (r8 HD.out.rs)
  have f0 := fofr HD.out.rs 0; have f1 := fofr HD.out.rs 1; have f2 := fofr HD.out.rs 2; have f3 := fofr HD.out.rs 3; have f4 := fofr HD.out.rs 4; have f5 := fofr HD.out.rs 5; have f6 := fofr HD.out.rs 6; have f7 := fofr HD.out.rs 7
  by_cases c1 : s.r.sent < 0
  · have c1b := decide_eq_true c1
    go_enter Try.func11, Try.ntmps11
    obtain ⟨z0, z1, z2, z3, z4, z5, z6, z7⟩ := HR.out
    go_wp2_with fail
    exact bodyPost_ret (v := .tuple #[rkV x, .bool true]) (by obtain ⟨y0, y1, y2, y3, y4, y5, y6, y7⟩ := r8 HE.out.1; simp [results, Try.results11, go_sem, y0, y1, y2, y3, y4, y5, y6, y7]) rfl ⟨rfl, HE.out.2.1, HE.out.2.2⟩
  have c1b := decide_eq_false c1
  by_cases c2 : 4611686018427387904 < s.r.sent
  · have c2b := decide_eq_true c2
    go_enter Try.func11, Try.ntmps11
    obtain ⟨z0, z1, z2, z3, z4, z5, z6, z7⟩ := HR.out
    go_wp2_with fail
    exact bodyPost_ret (v := .tuple #[rkV x, .bool true]) (by obtain ⟨y0, y1, y2, y3, y4, y5, y6, y7⟩ := r8 HE.out.1; simp [results, Try.results11, go_sem, y0, y1, y2, y3, y4, y5, y6, y7]) rfl ⟨rfl, HE.out.2.1, HE.out.2.2⟩
  have c2b := decide_eq_false c2
  by_cases c3 : s.now < 0
  · have c3b := decide_eq_true c3
    go_enter Try.func11, Try.ntmps11
    obtain ⟨z0, z1, z2, z3, z4, z5, z6, z7⟩ := HR.out
    go_wp2_with fail
    exact bodyPost_ret (v := .tuple #[rkV x, .bool true]) (by obtain ⟨y0, y1, y2, y3, y4, y5, y6, y7⟩ := r8 HE.out.1; simp [results, Try.results11, go_sem, y0, y1, y2, y3, y4, y5, y6, y7]) rfl ⟨rfl, HE.out.2.1, HE.out.2.2⟩
  have c3b := decide_eq_false c3
  have c4 : 4611686018427387904 < s.now := by omega
  have c4b := decide_eq_true c4
  go_enter Try.func11, Try.ntmps11
  obtain ⟨z0, z1, z2, z3, z4, z5, z6, z7⟩ := HR.out
  go_wp2_with fail
  exact bodyPost_ret (v := .tuple #[rkV x, .bool true]) (by obtain ⟨y0, y1, y2, y3, y4, y5, y6, y7⟩ := r8 HE.out.1; simp [results, Try.results11, go_sem, y0, y1, y2, y3, y4, y5, y6, y7]) rfl ⟨rfl, HE.out.2.1, HE.out.2.2⟩
end Go.Proofs.Ytfaaamlhkmmamaa.rk
