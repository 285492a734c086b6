/-
  The law's does: the ways back.
-/
import Derived.Test.YtkimlcmbbfcffaaLedE
namespace Go.Proofs.Ytkimlcmbbfcffaa.lg
open Go.RowKit Go.Shelf aid mem sp rn
attribute [local go_sem ↓] Go.wp_at_zero Go.wp_at_succ
set_option linter.unusedVariables false
set_option linter.unusedSimpArgs false

set_option maxRecDepth 100000 in
set_option maxHeartbeats 8000000 in
theorem does_force {w : World} {B : Nat} {x : Ld} {S : List Nat} {a : Option Addr} {n cap : Nat} (h : Ow B x S w) (ho : Ok x) (hr : SlR w 32 2 a n cap (spCells x.l)) (hn : ∀ c ∈ blk a cap, c ∉ B :: S) {s : OpV} (hs : OpOk s) (hk : s.kind % 6 = 5) (hop : x.op = true) (hb : undoB x = false) :
    Calls Try.prog 10 #[.pointer (some ⟨B, 0, none⟩), rV x a n cap, .agg (opC s)] w (DoesP w B S (blk a cap) (stp x s)) := by
  have HD := Lib.hid (e0_new h hr hn s)
  obtain ⟨⟨k0, k1⟩, _⟩ := hs
  have HS : Hid (stp x s = forceX x) := Lib.hid (by unfold stp; rw [if_neg (by omega), if_neg (by omega), if_neg (by omega), if_neg (by omega)])
  rw [HS.out]
  have HRC := Lib.hid (fun (f : Bool) W => show Calls Try.prog 24 #[rV x a n cap, .bool true] W fun e w' => e = .returned (.tuple #[rV (forceX x) a n cap, .bool true]) ∧ Below W.heap.size W w' from by
    have := rundo_any a cap (row_len hr) true W
    have hB : runB x true = true := by unfold runB; rw [hop]; rfl
    unfold runX at this
    rw [hB, if_pos rfl] at this
    exact this)
  have HPC := Lib.hid (fun S W (q : Ow B x S W) => show Calls Try.prog 17 #[.pointer (some ⟨B, 0, none⟩)] W (RetL (.tuple #[.int .i64 0, .int .i64 0, .bool false]) B x S W) from by
    have := undo_any q ho.n
    unfold undoX at this
    rw [hb, if_neg (by simp), fV_no] at this
    exact this)
  have HFC := Lib.hid (fun S W (q : Ow B x S W) => show Calls Try.prog 19 #[.pointer (some ⟨B, 0, none⟩)] W (RetL (.tuple #[.int .i64 x.cw, .int .i64 x.th, .bool true]) B (forceX x) S W) from by
    have := force_any q
    rw [hop, fV_yes] at this
    exact this)
  have HLY : Hid (x.l = (forceX x).l) := Lib.hid rfl
  clear h hr hn ho HS hb hop
  generalize forceX x = y at *
  obtain ⟨o0, o1, o2, o3, o4⟩ := op_cs HD.out.op
  obtain ⟨r0, r1, r2, r3, r4⟩ := st_of HD.out.b0
  · go_enter Try.func10, Try.ntmps10
    go_upto_region 13 with (go_at_call 24; go_must (with_reducible refine (HRC.out true _).mono ?_); rintro e w1 ⟨rfl, q1⟩)
    have RR := ((HD.out.row2 (y' := y) q1 (by rw [← HLY.out]; exact (HD.out.later q1).row) (fun c hc => .inl hc)).alloc)
    clear q1 HD o0 o1 o2 o3 o4 r0 r1 r2 r3 r4
    generalize hm : w1.heap.size = m at *
    generalize w1.alloc (rO y a n cap) = W1 at *
    obtain ⟨o0, o1, o2, o3, o4⟩ := op_cs RR.e.op
    go_upto_region 18 with (first
      | (go_at_call 17; go_must (with_reducible refine (HPC.out _ _ RR.e.ow).mono ?_); intro e w2 q; obtain ⟨rfl, S', R1⟩ := RR.wrote q; clear RR q o0 o1 o2 o3 o4; obtain ⟨o0, o1, o2, o3, o4⟩ := op_cs R1.e.op)
      | (go_at_call 19; go_must (with_reducible refine (HFC.out _ _ R1.e.ow).mono ?_); intro e w3 q; obtain ⟨rfl, S2, R2⟩ := R1.wrote q; clear R1 q o0 o1 o2 o3 o4; have R1 := R2; clear R2; obtain ⟨o0, o1, o2, o3, o4⟩ := op_cs R1.e.op))
    clear o0 o1 o2 o3 o4
    have R2 := R1.drew
    have HE := Lib.hid R2.end_
    obtain ⟨g0, g1, g2, g3, g4⟩ := st_of R1.bm
    obtain ⟨v0, v1, v2, v3, v4⟩ := st_of R1.e.b0
    obtain ⟨z0, z1, z2, z3, z4⟩ := st_of R1.e.rs; obtain ⟨f0, f1, f2, f3, f4⟩ := fz_of R1.e.rs
    have g0' := (st_of R2.bm).1; have g1' := (st_of R2.bm).2.1; have g2' := (st_of R2.bm).2.2.1; have g3' := (st_of R2.bm).2.2.2.1; have g4' := (st_of R2.bm).2.2.2.2
    have v1' := (st_of R2.e.b0).2.1; have v2' := (st_of R2.e.b0).2.2.1
    have z0' := (st_of R2.e.rs).1; have z1' := (st_of R2.e.rs).2.1; have z2' := (st_of R2.e.rs).2.2.1; have z3' := (st_of R2.e.rs).2.2.2.1; have z4' := (st_of R2.e.rs).2.2.2.2
    obtain ⟨f0', f1', f2', f3', f4'⟩ := fz_of R2.e.rs
    clear R1 R2
    go_region
    have HE2 := Lib.hid (show ((((((w3.setCell ⟨w.heap.size + 1 + 1, 0, none⟩ (.bool y.op)).setCell ⟨w.heap.size + 1 + 1, 1, none⟩ (.int .i64 y.cw)).setCell ⟨w.heap.size + 1 + 1, 2, none⟩ (.int .i64 y.th)).setCell ⟨w.heap.size + 1 + 1, 3, none⟩ (.slice a n cap)).setCell ⟨w.heap.size + 1 + 1, 4, none⟩ (.bool y.sp)).drew).heap[w.heap.size + 1 + 1]? = some (rO y a n cap) ∧ FinD w B S (blk a cap) y a n cap ((((((w3.setCell ⟨w.heap.size + 1 + 1, 0, none⟩ (.bool y.op)).setCell ⟨w.heap.size + 1 + 1, 1, none⟩ (.int .i64 y.cw)).setCell ⟨w.heap.size + 1 + 1, 2, none⟩ (.int .i64 y.th)).setCell ⟨w.heap.size + 1 + 1, 3, none⟩ (.slice a n cap)).setCell ⟨w.heap.size + 1 + 1, 4, none⟩ (.bool y.sp)).drew) from HE.out)
    clear HE g0 g1 g2 g3 g4 v0 v1 v2 v3 v4 z0 z1 z2 z3 z4 f0 f1 f2 f3 f4 g0' g1' g2' g3' g4' v1' v2' z0' z1' z2' z3' z4' f0' f1' f2' f3' f4'
    generalize (((((w3.setCell ⟨w.heap.size + 1 + 1, 0, none⟩ (.bool y.op)).setCell ⟨w.heap.size + 1 + 1, 1, none⟩ (.int .i64 y.cw)).setCell ⟨w.heap.size + 1 + 1, 2, none⟩ (.int .i64 y.th)).setCell ⟨w.heap.size + 1 + 1, 3, none⟩ (.slice a n cap)).setCell ⟨w.heap.size + 1 + 1, 4, none⟩ (.bool y.sp)).drew = U at *
    obtain ⟨y0, y1, y2, y3, y4⟩ := st_of HE2.out.1
    have HE := HE2
    clear HE2
    go_wp2_with fail
    exact bodyPost_ret (v := .tuple #[rV y a n cap, .bool true]) (by simp [results, Try.results10, go_sem, y0, y1, y2, y3, y4]) rfl ⟨a, n, cap, rfl, HE.out.2⟩
end Go.Proofs.Ytkimlcmbbfcffaa.lg
