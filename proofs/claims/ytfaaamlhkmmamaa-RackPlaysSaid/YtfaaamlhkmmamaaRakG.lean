/-
  Layer 15's law: does, Came (written by gen_rakd.py).
-/
import Derived.Test.YtfaaamlhkmmamaaRakD
namespace Go.Proofs.Ytfaaamlhkmmamaa.rk
open Go.RowKit aid mem bk
attribute [local go_sem ↓] Go.wp_at_zero Go.wp_at_succ
set_option linter.unusedVariables false
set_option linter.unusedSimpArgs false

set_option maxRecDepth 100000 in
set_option maxHeartbeats 8000000 in
theorem does_came {w : World} {X : Nat} {x : Rk} (h : RkAt w X x) (ho : Ok x) {s : OpV} (hs : OpOk s) (h2 : ¬ s.kind % 4 = 2) (h3 : ¬ s.kind % 4 = 3) (hc : ¬ (s.r.sent < 0 ∨ 4611686018427387904 < s.r.sent ∨ s.now < 0 ∨ 4611686018427387904 < s.now)) : Calls Try.prog 11 #[.pointer (some ⟨X, 0, none⟩), rkV x, .agg (opC s)] w (DoesP w X x s) := by
  have hD := d0_new h s
  obtain ⟨⟨k0, k1⟩, hs1, hs2, hs3, hs4, hs5, hv⟩ := hs
  have HV := Lib.hid hv
  have HO := Lib.hid ho
  clear h ho hs1 hs2 hs3 hs4 hs5 hv
  have HD := Lib.hid hD
  obtain ⟨o0, o1, o2, o3, o4, o5, o6, o7, o8, o9, o10, o11, o12, o13, o14⟩ := op_cs hD.op
  obtain ⟨r0, r1, r2, r3, r4, r5, r6, r7⟩ := r8 hD.b0
  clear hD
  unfold DoesP
  have HS : Hid (stp x s = came x s.r s.now s.least s.has s.echo.1 s.echo.2) := Lib.hid (by unfold stp; rw [if_neg h2, if_neg h3, if_neg hc])
  rw [HS.out]
  have HN : Hid ((0 ≤ s.r.sent ∧ s.r.sent ≤ 4611686018427387904) ∧ (0 ≤ s.now ∧ s.now ≤ 4611686018427387904)) := Lib.hid (by omega)
  have c1b : decide (s.r.sent < 0) = false := decide_eq_false (by omega)
  have c2b : decide (4611686018427387904 < s.r.sent) = false := decide_eq_false (by omega)
  have c3b : decide (s.now < 0) = false := decide_eq_false (by omega)
  have c4b : decide (4611686018427387904 < s.now) = false := decide_eq_false (by omega)
  generalize hy : came x s.r s.now s.least s.has s.echo.1 s.echo.2 = y
  generalize hg : cameB x s.r s.now s.least s.has s.echo.1 s.echo.2 = g
  have HY := Lib.hid (And.intro hy hg)
  clear HS hy hg hc
  go_enter Try.func11, Try.ntmps11
  go_wp2_with fail
  have F0 := HD.out
  have F := HD.out.drew
  clear HD o0 o1 o2 o3 o4 o5 o6 o7 o8 o9 o10 o11 o12 o13 o14 r0 r1 r2 r3 r4 r5 r6 r7 c1b c2b c3b c4b
  generalize ((w.alloc (rkO x)).alloc (opO s)).alloc (rkO rkZ) = W0 at *
  refine wp_region_noPanic ?_
  refine wp_region_held_drew (S := (fun w' => w'.cell? ⟨w.heap.size, 0, none⟩ = some (.int .i64 x.floor) ∧ w'.cell? ⟨w.heap.size, 1, none⟩ = some (.int .i64 x.rtt) ∧ w'.cell? ⟨w.heap.size, 2, none⟩ = some (.int .i64 x.order) ∧ w'.cell? ⟨w.heap.size, 3, none⟩ = some (.int .i64 x.fin) ∧ w'.cell? ⟨w.heap.size, 4, none⟩ = some (.bool x.mixed) ∧ w'.cell? ⟨w.heap.size, 5, none⟩ = some (.int .i64 x.mult) ∧ w'.cell? ⟨w.heap.size, 6, none⟩ = some (.int .i64 x.round) ∧ w'.cell? ⟨w.heap.size, 7, none⟩ = some (.int .i64 x.rest) ∧ w'.cell? ⟨w.heap.size + 1, 1, none⟩ = some (.int .i64 s.r.f) ∧ w'.cell? ⟨w.heap.size + 1, 2, none⟩ = some (.int .i64 s.r.t) ∧ w'.cell? ⟨w.heap.size + 1, 3, none⟩ = some (.int .i64 s.r.sent) ∧ w'.cell? ⟨w.heap.size + 1, 4, none⟩ = some (.int .i64 s.r.order) ∧ w'.cell? ⟨w.heap.size + 1, 5, none⟩ = some (.int .i64 s.r.times) ∧ w'.cell? ⟨w.heap.size + 1, 6, none⟩ = some (.int .i64 s.r.out) ∧ w'.cell? ⟨w.heap.size + 1, 7, none⟩ = some (.bool s.r.lost) ∧ w'.cell? ⟨w.heap.size + 1, 8, none⟩ = some (.int .i64 s.now) ∧ w'.cell? ⟨w.heap.size + 1, 9, none⟩ = some (.int .i64 s.least) ∧ w'.cell? ⟨w.heap.size + 1, 10, none⟩ = some (.bool s.has) ∧ w'.cell? ⟨w.heap.size + 1, 11, none⟩ = some (.bool s.echo.1) ∧ w'.cell? ⟨w.heap.size + 1, 12, none⟩ = some (.int .u32 s.echo.2))) (by kernel_rfl) ?_ (fun hHeld => ?_)
  · ((try dsimp only); exact s11_of F.b0 F.op)
  refine wpAnyH_take (i := 0) (oi := _) (v := ?_) rfl (by kernel_rfl) (by kernel_rfl) (by kernel_rfl) (fun _ _ _ h => h) (Or.inl ⟨by rfl, ?_⟩) (by assumption) ?_
  rotate_left
  · (first | (intro v hSw; (try dsimp only at hSw); go_simp; done) | (intro v hSw; (try dsimp only at hSw); go_simp; with_reducible rfl))
  (try simp only [List.getElem_toArray, List.getElem_cons_succ, List.getElem_cons_zero, Act.put, List.setIfInBounds_toArray, List.set_cons_zero, List.set_cons_succ])
  refine wpAnyH_take (i := 1) (oi := _) (v := ?_) rfl (by kernel_rfl) (by kernel_rfl) (by kernel_rfl) (fun _ _ _ h => h) (Or.inl ⟨by rfl, ?_⟩) (by assumption) ?_
  rotate_left
  · (first | (intro v hSw; (try dsimp only at hSw); go_simp; done) | (intro v hSw; (try dsimp only at hSw); go_simp; with_reducible rfl))
  (try simp only [List.getElem_toArray, List.getElem_cons_succ, List.getElem_cons_zero, Act.put, List.setIfInBounds_toArray, List.set_cons_zero, List.set_cons_succ])
  refine wpAnyH_take (i := 2) (oi := _) (v := ?_) rfl (by kernel_rfl) (by kernel_rfl) (by kernel_rfl) (fun _ _ _ h => h) (Or.inl ⟨by rfl, ?_⟩) (by assumption) ?_
  rotate_left
  · (first | (intro v hSw; (try dsimp only at hSw); go_simp; done) | (intro v hSw; (try dsimp only at hSw); go_simp; with_reducible rfl))
  (try simp only [List.getElem_toArray, List.getElem_cons_succ, List.getElem_cons_zero, Act.put, List.setIfInBounds_toArray, List.set_cons_zero, List.set_cons_succ])
  refine wpAnyH_take (i := 4) (oi := _) (v := ?_) rfl (by kernel_rfl) (by kernel_rfl) (by kernel_rfl) (fun _ _ _ h => h) (Or.inl ⟨by rfl, ?_⟩) (by assumption) ?_
  rotate_left
  · (first | (intro v hSw; (try dsimp only at hSw); go_simp; done) | (intro v hSw; (try dsimp only at hSw); go_simp; with_reducible rfl))
  (try simp only [List.getElem_toArray, List.getElem_cons_succ, List.getElem_cons_zero, Act.put, List.setIfInBounds_toArray, List.set_cons_zero, List.set_cons_succ])
  refine wpAnyH_take (i := 5) (oi := _) (v := ?_) rfl (by kernel_rfl) (by kernel_rfl) (by kernel_rfl) (fun _ _ _ h => h) (Or.inl ⟨by rfl, ?_⟩) (by assumption) ?_
  rotate_left
  · (first | (intro v hSw; (try dsimp only at hSw); go_simp; done) | (intro v hSw; (try dsimp only at hSw); go_simp; with_reducible rfl))
  (try simp only [List.getElem_toArray, List.getElem_cons_succ, List.getElem_cons_zero, Act.put, List.setIfInBounds_toArray, List.set_cons_zero, List.set_cons_succ])
  refine wpAnyH_take (i := 6) (oi := _) (v := ?_) rfl (by kernel_rfl) (by kernel_rfl) (by kernel_rfl) (fun _ _ _ h => h) (Or.inl ⟨by rfl, ?_⟩) (by assumption) ?_
  rotate_left
  · (first | (intro v hSw; (try dsimp only at hSw); go_simp; done) | (intro v hSw; (try dsimp only at hSw); go_simp; with_reducible rfl))
  (try simp only [List.getElem_toArray, List.getElem_cons_succ, List.getElem_cons_zero, Act.put, List.setIfInBounds_toArray, List.set_cons_zero, List.set_cons_succ])
  refine wpAnyH_take (i := 7) (oi := _) (v := ?_) rfl (by kernel_rfl) (by kernel_rfl) (by kernel_rfl) (fun _ _ _ h => h) (Or.inl ⟨by rfl, ?_⟩) (by assumption) ?_
  rotate_left
  · (first | (intro v hSw; (try dsimp only at hSw); go_simp; done) | (intro v hSw; (try dsimp only at hSw); go_simp; with_reducible rfl))
  (try simp only [List.getElem_toArray, List.getElem_cons_succ, List.getElem_cons_zero, Act.put, List.setIfInBounds_toArray, List.set_cons_zero, List.set_cons_succ])
  refine wpAnyH_take (i := 8) (oi := _) (v := ?_) rfl (by kernel_rfl) (by kernel_rfl) (by kernel_rfl) (fun _ _ _ h => h) (Or.inl ⟨by rfl, ?_⟩) (by assumption) ?_
  rotate_left
  · (first | (intro v hSw; (try dsimp only at hSw); go_simp; done) | (intro v hSw; (try dsimp only at hSw); go_simp; with_reducible rfl))
  (try simp only [List.getElem_toArray, List.getElem_cons_succ, List.getElem_cons_zero, Act.put, List.setIfInBounds_toArray, List.set_cons_zero, List.set_cons_succ])
  refine wpAnyH_take (i := 9) (oi := _) (v := ?_) rfl (by kernel_rfl) (by kernel_rfl) (by kernel_rfl) (fun _ _ _ h => h) (Or.inl ⟨by rfl, ?_⟩) (by assumption) ?_
  rotate_left
  · (first | (intro v hSw; (try dsimp only at hSw); go_simp; done) | (intro v hSw; (try dsimp only at hSw); go_simp; with_reducible rfl))
  (try simp only [List.getElem_toArray, List.getElem_cons_succ, List.getElem_cons_zero, Act.put, List.setIfInBounds_toArray, List.set_cons_zero, List.set_cons_succ])
  refine wpAnyH_take (i := 10) (oi := _) (v := ?_) rfl (by kernel_rfl) (by kernel_rfl) (by kernel_rfl) (fun _ _ _ h => h) (Or.inl ⟨by rfl, ?_⟩) (by assumption) ?_
  rotate_left
  · (first | (intro v hSw; (try dsimp only at hSw); go_simp; done) | (intro v hSw; (try dsimp only at hSw); go_simp; with_reducible rfl))
  (try simp only [List.getElem_toArray, List.getElem_cons_succ, List.getElem_cons_zero, Act.put, List.setIfInBounds_toArray, List.set_cons_zero, List.set_cons_succ])
  refine wpAnyH_take (i := 11) (oi := _) (v := ?_) rfl (by kernel_rfl) (by kernel_rfl) (by kernel_rfl) (fun _ _ _ h => h) (Or.inl ⟨by rfl, ?_⟩) (by assumption) ?_
  rotate_left
  · (first | (intro v hSw; (try dsimp only at hSw); go_simp; done) | (intro v hSw; (try dsimp only at hSw); go_simp; with_reducible rfl))
  (try simp only [List.getElem_toArray, List.getElem_cons_succ, List.getElem_cons_zero, Act.put, List.setIfInBounds_toArray, List.set_cons_zero, List.set_cons_succ])
  refine wpAnyH_take (i := 12) (oi := _) (v := ?_) rfl (by kernel_rfl) (by kernel_rfl) (by kernel_rfl) (fun _ _ _ h => h) (Or.inl ⟨by rfl, ?_⟩) (by assumption) ?_
  rotate_left
  · (first | (intro v hSw; (try dsimp only at hSw); go_simp; done) | (intro v hSw; (try dsimp only at hSw); go_simp; with_reducible rfl))
  (try simp only [List.getElem_toArray, List.getElem_cons_succ, List.getElem_cons_zero, Act.put, List.setIfInBounds_toArray, List.set_cons_zero, List.set_cons_succ])
  refine wpAnyH_take (i := 13) (oi := _) (v := ?_) rfl (by kernel_rfl) (by kernel_rfl) (by kernel_rfl) (fun _ _ _ h => h) (Or.inl ⟨by rfl, ?_⟩) (by assumption) ?_
  rotate_left
  · (first | (intro v hSw; (try dsimp only at hSw); go_simp; done) | (intro v hSw; (try dsimp only at hSw); go_simp; with_reducible rfl))
  (try simp only [List.getElem_toArray, List.getElem_cons_succ, List.getElem_cons_zero, Act.put, List.setIfInBounds_toArray, List.set_cons_zero, List.set_cons_succ])
  refine wpAnyH_take (i := 14) (oi := _) (v := ?_) rfl (by kernel_rfl) (by kernel_rfl) (by kernel_rfl) (fun _ _ _ h => h) (Or.inl ⟨by rfl, ?_⟩) (by assumption) ?_
  rotate_left
  · (first | (intro v hSw; (try dsimp only at hSw); go_simp; done) | (intro v hSw; (try dsimp only at hSw); go_simp; with_reducible rfl))
  (try simp only [List.getElem_toArray, List.getElem_cons_succ, List.getElem_cons_zero, Act.put, List.setIfInBounds_toArray, List.set_cons_zero, List.set_cons_succ])
  refine wpAnyH_take (i := 15) (oi := _) (v := ?_) rfl (by kernel_rfl) (by kernel_rfl) (by kernel_rfl) (fun _ _ _ h => h) (Or.inl ⟨by rfl, ?_⟩) (by assumption) ?_
  rotate_left
  · (first | (intro v hSw; (try dsimp only at hSw); go_simp; done) | (intro v hSw; (try dsimp only at hSw); go_simp; with_reducible rfl))
  (try simp only [List.getElem_toArray, List.getElem_cons_succ, List.getElem_cons_zero, Act.put, List.setIfInBounds_toArray, List.set_cons_zero, List.set_cons_succ])
  refine wpAnyH_ready (rs := [3, 20]) (by kernel_rfl) (by simp) ?_
  refine AllReadyH.cons (o := _) rfl (fun K hK => ?_) ?_
  · go_simp
    (go_at_call 18; (with_reducible refine (rec_any _ _).mono ?_); rintro e w2 ⟨rfl, q2⟩; (first | (replace F := F.later q2; clear q2) | (replace G := G.later q2; clear q2; (try clear r0 r1 r2 r3 r4 r5 r6 r7 f0 f1 f2 f3 f4 f5 f6 f7); obtain ⟨r0, r1, r2, r3, r4, r5, r6, r7⟩ := r8 G.bm; have f0 := fofr G.bm 0; have f1 := fofr G.bm 1; have f2 := fofr G.bm 2; have f3 := fofr G.bm 3; have f4 := fofr G.bm 4; have f5 := fofr G.bm 5; have f6 := fofr G.bm 6; have f7 := fofr G.bm 7)))
    refine hK.out _ _ ?_ (fun hHeld => ?_)
    · ((try dsimp only); with_reducible first | exact s11_of F.b0 F.op | exact s11_of H.d.b0 H.d.op | exact s11_of G.d.b0 G.d.op)
    clear hK K
    (try simp only [List.getElem_toArray, List.getElem_cons_succ, List.getElem_cons_zero, Act.put, List.setIfInBounds_toArray, List.set_cons_zero, List.set_cons_succ])
    refine wpAnyH_ready (rs := [16, 20]) (by kernel_rfl) (by simp) ?_
    refine AllReadyH.cons (o := _) rfl (fun K hK => ?_) ?_
    · go_simp
      (go_at_call 17; (with_reducible refine (rcame_any x s.r HV.out HN.out.1 HN.out.2 _).mono ?_); rw [HY.out.1, HY.out.2]; rintro e w3 ⟨rfl, q3⟩; (first | (replace F := F.later q3; clear q3) | (replace G := G.later q3; clear q3; (try clear r0 r1 r2 r3 r4 r5 r6 r7 f0 f1 f2 f3 f4 f5 f6 f7); obtain ⟨r0, r1, r2, r3, r4, r5, r6, r7⟩ := r8 G.bm; have f0 := fofr G.bm 0; have f1 := fofr G.bm 1; have f2 := fofr G.bm 2; have f3 := fofr G.bm 3; have f4 := fofr G.bm 4; have f5 := fofr G.bm 5; have f6 := fofr G.bm 6; have f7 := fofr G.bm 7)))
      refine hK.out _ _ ?_ (fun hHeld => ?_)
      · ((try dsimp only); with_reducible first | exact s11_of F.b0 F.op | exact s11_of H.d.b0 H.d.op | exact s11_of G.d.b0 G.d.op)
      clear hK K
      (try simp only [List.getElem_toArray, List.getElem_cons_succ, List.getElem_cons_zero, Act.put, List.setIfInBounds_toArray, List.set_cons_zero, List.set_cons_succ])
      refine wpAnyH_take (i := 17) (oi := _) (v := ?_) rfl (by kernel_rfl) (by kernel_rfl) (by kernel_rfl) (fun _ _ _ h => h) (Or.inl ⟨by rfl, ?_⟩) (by assumption) ?_
      rotate_left
      · (first | (intro v hSw; (try dsimp only at hSw); go_simp; done) | (intro v hSw; (try dsimp only at hSw); go_simp; with_reducible rfl))
      (try simp only [List.getElem_toArray, List.getElem_cons_succ, List.getElem_cons_zero, Act.put, List.setIfInBounds_toArray, List.set_cons_zero, List.set_cons_succ])
      refine wpAnyH_take (i := 18) (oi := _) (v := ?_) rfl (by kernel_rfl) (by kernel_rfl) (by kernel_rfl) (fun _ _ _ h => h) (Or.inl ⟨by rfl, ?_⟩) (by assumption) ?_
      rotate_left
      · (first | (intro v hSw; (try dsimp only at hSw); go_simp; done) | (intro v hSw; (try dsimp only at hSw); go_simp; with_reducible rfl))
      (try simp only [List.getElem_toArray, List.getElem_cons_succ, List.getElem_cons_zero, Act.put, List.setIfInBounds_toArray, List.set_cons_zero, List.set_cons_succ])
      refine wpAnyH_take (i := 19) (oi := _) (v := ?_) rfl (by kernel_rfl) (by kernel_rfl) (by kernel_rfl) (fun _ _ _ h => h) (Or.inl ⟨by rfl, ?_⟩) (by assumption) ?_
      rotate_left
      · (first | (intro v hSw; (try dsimp only at hSw); go_simp; done) | (intro v hSw; (try dsimp only at hSw); go_simp; with_reducible rfl))
      (try simp only [List.getElem_toArray, List.getElem_cons_succ, List.getElem_cons_zero, Act.put, List.setIfInBounds_toArray, List.set_cons_zero, List.set_cons_succ])
      refine wpAnyH_ready (rs := [20]) (by kernel_rfl) (by simp) ?_
      refine AllReadyH.cons (o := _) rfl (fun K hK => ?_) AllReadyH.nil
      go_simp
      (first | (have G : D4 w X x x s w3.heap.size rkZ (w3.alloc (rkO rkZ)) := F.alloc rkZ; have HC : D4 w X x x s w3.heap.size y (w3.alloc (rkO y)) := F.alloc y; generalize hm : w3.heap.size = m at *) | (have G : D4 w X x x s w2.heap.size rkZ (w2.alloc (rkO rkZ)) := F.alloc rkZ; generalize hm : w2.heap.size = m at *) | (have G : D4 w X x x s W0.heap.size rkZ (W0.alloc (rkO rkZ)).drew := (F0.alloc rkZ).drew; generalize hm : W0.heap.size = m at *))
      clear F
      ((try clear r0 r1 r2 r3 r4 r5 r6 r7 f0 f1 f2 f3 f4 f5 f6 f7); obtain ⟨r0, r1, r2, r3, r4, r5, r6, r7⟩ := r8 G.bm; have f0 := fofr G.bm 0; have f1 := fofr G.bm 1; have f2 := fofr G.bm 2; have f3 := fofr G.bm 3; have f4 := fofr G.bm 4; have f5 := fofr G.bm 5; have f6 := fofr G.bm 6; have f7 := fofr G.bm 7)
      refine hK.out _ _ ?_ (fun hHeld => ?_)
      · ((try dsimp only); with_reducible first | exact s11_of F.b0 F.op | exact s11_of H.d.b0 H.d.op | exact s11_of G.d.b0 G.d.op)
      clear hK K
      (try simp only [List.getElem_toArray, List.getElem_cons_succ, List.getElem_cons_zero, Act.put, List.setIfInBounds_toArray, List.set_cons_zero, List.set_cons_succ])
      refine wpAnyH_ready (rs := [21]) (by kernel_rfl) (by simp) ?_
      refine AllReadyH.cons (o := _) rfl (fun K hK => ?_) AllReadyH.nil
      go_simp
      first | (have H := HC; clear HC) | (have H := G.put_m y)
      clear r0 r1 r2 r3 r4 r5 r6 r7 f0 f1 f2 f3 f4 f5 f6 f7 G
      refine hK.out _ _ ?_ (fun hHeld => ?_)
      · ((try dsimp only); with_reducible first | exact s11_of F.b0 F.op | exact s11_of H.d.b0 H.d.op | exact s11_of G.d.b0 G.d.op)
      clear hK K
      (try simp only [List.getElem_toArray, List.getElem_cons_succ, List.getElem_cons_zero, Act.put, List.setIfInBounds_toArray, List.set_cons_zero, List.set_cons_succ])
      refine wpAnyH_take (i := 22) (oi := _) (v := ?_) rfl (by kernel_rfl) (by kernel_rfl) (by kernel_rfl) (fun _ _ _ h => h) (Or.inl ⟨by rfl, ?_⟩) (by assumption) ?_
      rotate_left
      · (first | (intro v hSw; (try dsimp only at hSw); go_simp; done) | (intro v hSw; (try dsimp only at hSw); go_simp; with_reducible rfl))
      (try simp only [List.getElem_toArray, List.getElem_cons_succ, List.getElem_cons_zero, Act.put, List.setIfInBounds_toArray, List.set_cons_zero, List.set_cons_succ])
      refine wpAnyH_done (by kernel_rfl) ?_ _
      refine NoPanic.normal ?_
      clear hHeld
      go_wp2_with fail
      have R := H.drew
      have P0 := s11_of R.bm R.d.op
      clear H
      go_region_held3 (fun w' => w'.cell? ⟨m, 0, none⟩ = some (.int .i64 y.floor) ∧ w'.cell? ⟨m, 1, none⟩ = some (.int .i64 y.rtt) ∧ w'.cell? ⟨m, 2, none⟩ = some (.int .i64 y.order) ∧ w'.cell? ⟨m, 3, none⟩ = some (.int .i64 y.fin) ∧ w'.cell? ⟨m, 4, none⟩ = some (.bool y.mixed) ∧ w'.cell? ⟨m, 5, none⟩ = some (.int .i64 y.mult) ∧ w'.cell? ⟨m, 6, none⟩ = some (.int .i64 y.round) ∧ w'.cell? ⟨m, 7, none⟩ = some (.int .i64 y.rest) ∧ w'.cell? ⟨w.heap.size + 1, 1, none⟩ = some (.int .i64 s.r.f) ∧ w'.cell? ⟨w.heap.size + 1, 2, none⟩ = some (.int .i64 s.r.t) ∧ w'.cell? ⟨w.heap.size + 1, 3, none⟩ = some (.int .i64 s.r.sent) ∧ w'.cell? ⟨w.heap.size + 1, 4, none⟩ = some (.int .i64 s.r.order) ∧ w'.cell? ⟨w.heap.size + 1, 5, none⟩ = some (.int .i64 s.r.times) ∧ w'.cell? ⟨w.heap.size + 1, 6, none⟩ = some (.int .i64 s.r.out) ∧ w'.cell? ⟨w.heap.size + 1, 7, none⟩ = some (.bool s.r.lost) ∧ w'.cell? ⟨w.heap.size + 1, 8, none⟩ = some (.int .i64 s.now) ∧ w'.cell? ⟨w.heap.size + 1, 9, none⟩ = some (.int .i64 s.least) ∧ w'.cell? ⟨w.heap.size + 1, 10, none⟩ = some (.bool s.has) ∧ w'.cell? ⟨w.heap.size + 1, 11, none⟩ = some (.bool s.echo.1) ∧ w'.cell? ⟨w.heap.size + 1, 12, none⟩ = some (.int .u32 s.echo.2)) (with_reducible first | exact P3 | exact P1 | exact P0 | go_keep)
        ((go_at_call 19; (with_reducible refine (came_any R.d.rk s.r HV.out HN.out.1 HN.out.2).mono ?_); rw [HY.out.1, HY.out.2]; rintro e w5 ⟨rfl, q1, q2⟩; have R1 := R.wrote q1 q2; clear R q1 q2; have HE := R1.end_; have P1 := s11_of R1.bm R1.d.op; have P3 := s11_of R1.put.1 R1.put.2; obtain ⟨r0, r1, r2, r3, r4, r5, r6, r7⟩ := r8 R1.d.rs; have f0 := fofr R1.d.rs 0; have f1 := fofr R1.d.rs 1; have f2 := fofr R1.d.rs 2; have f3 := fofr R1.d.rs 3; have f4 := fofr R1.d.rs 4; have f5 := fofr R1.d.rs 5; have f6 := fofr R1.d.rs 6; have f7 := fofr R1.d.rs 7; have nr : m ≠ w.heap.size + 1 + 1 := (by have := R1.ml; omega); clear P0))
      obtain ⟨y0, y1, y2, y3, y4, y5, y6, y7⟩ := r8 HE.out.1
      have HFIN := Lib.hid HE.out.2
      clear HE R1 P1 P3 r0 r1 r2 r3 r4 r5 r6 r7 f0 f1 f2 f3 f4 f5 f6 f7 nr
      go_wp2_with fail
      exact bodyPost_ret (v := .tuple #[rkV y, .bool true]) (by simp [results, Try.results11, go_sem, y0, y1, y2, y3, y4, y5, y6, y7]) rfl ⟨rfl, HFIN.out.1, HFIN.out.2⟩
    refine AllReadyH.cons (o := _) rfl (fun K hK => ?_) AllReadyH.nil
    go_simp
    (first | (have G : D4 w X x x s w3.heap.size rkZ (w3.alloc (rkO rkZ)) := F.alloc rkZ; have HC : D4 w X x x s w3.heap.size y (w3.alloc (rkO y)) := F.alloc y; generalize hm : w3.heap.size = m at *) | (have G : D4 w X x x s w2.heap.size rkZ (w2.alloc (rkO rkZ)) := F.alloc rkZ; generalize hm : w2.heap.size = m at *) | (have G : D4 w X x x s W0.heap.size rkZ (W0.alloc (rkO rkZ)).drew := (F0.alloc rkZ).drew; generalize hm : W0.heap.size = m at *))
    clear F
    ((try clear r0 r1 r2 r3 r4 r5 r6 r7 f0 f1 f2 f3 f4 f5 f6 f7); obtain ⟨r0, r1, r2, r3, r4, r5, r6, r7⟩ := r8 G.bm; have f0 := fofr G.bm 0; have f1 := fofr G.bm 1; have f2 := fofr G.bm 2; have f3 := fofr G.bm 3; have f4 := fofr G.bm 4; have f5 := fofr G.bm 5; have f6 := fofr G.bm 6; have f7 := fofr G.bm 7)
    refine hK.out _ _ ?_ (fun hHeld => ?_)
    · ((try dsimp only); with_reducible first | exact s11_of F.b0 F.op | exact s11_of H.d.b0 H.d.op | exact s11_of G.d.b0 G.d.op)
    clear hK K
    (try simp only [List.getElem_toArray, List.getElem_cons_succ, List.getElem_cons_zero, Act.put, List.setIfInBounds_toArray, List.set_cons_zero, List.set_cons_succ])
    refine wpAnyH_ready (rs := [16]) (by kernel_rfl) (by simp) ?_
    refine AllReadyH.cons (o := _) rfl (fun K hK => ?_) AllReadyH.nil
    go_simp
    (go_at_call 17; (with_reducible refine (rcame_any x s.r HV.out HN.out.1 HN.out.2 _).mono ?_); rw [HY.out.1, HY.out.2]; rintro e w3 ⟨rfl, q3⟩; (first | (replace F := F.later q3; clear q3) | (replace G := G.later q3; clear q3; (try clear r0 r1 r2 r3 r4 r5 r6 r7 f0 f1 f2 f3 f4 f5 f6 f7); obtain ⟨r0, r1, r2, r3, r4, r5, r6, r7⟩ := r8 G.bm; have f0 := fofr G.bm 0; have f1 := fofr G.bm 1; have f2 := fofr G.bm 2; have f3 := fofr G.bm 3; have f4 := fofr G.bm 4; have f5 := fofr G.bm 5; have f6 := fofr G.bm 6; have f7 := fofr G.bm 7)))
    refine hK.out _ _ ?_ (fun hHeld => ?_)
    · ((try dsimp only); with_reducible first | exact s11_of F.b0 F.op | exact s11_of H.d.b0 H.d.op | exact s11_of G.d.b0 G.d.op)
    clear hK K
    (try simp only [List.getElem_toArray, List.getElem_cons_succ, List.getElem_cons_zero, Act.put, List.setIfInBounds_toArray, List.set_cons_zero, List.set_cons_succ])
    refine wpAnyH_take (i := 17) (oi := _) (v := ?_) rfl (by kernel_rfl) (by kernel_rfl) (by kernel_rfl) (fun _ _ _ h => h) (Or.inl ⟨by rfl, ?_⟩) (by assumption) ?_
    rotate_left
    · (first | (intro v hSw; (try dsimp only at hSw); go_simp; done) | (intro v hSw; (try dsimp only at hSw); go_simp; with_reducible rfl))
    (try simp only [List.getElem_toArray, List.getElem_cons_succ, List.getElem_cons_zero, Act.put, List.setIfInBounds_toArray, List.set_cons_zero, List.set_cons_succ])
    refine wpAnyH_take (i := 18) (oi := _) (v := ?_) rfl (by kernel_rfl) (by kernel_rfl) (by kernel_rfl) (fun _ _ _ h => h) (Or.inl ⟨by rfl, ?_⟩) (by assumption) ?_
    rotate_left
    · (first | (intro v hSw; (try dsimp only at hSw); go_simp; done) | (intro v hSw; (try dsimp only at hSw); go_simp; with_reducible rfl))
    (try simp only [List.getElem_toArray, List.getElem_cons_succ, List.getElem_cons_zero, Act.put, List.setIfInBounds_toArray, List.set_cons_zero, List.set_cons_succ])
    refine wpAnyH_take (i := 19) (oi := _) (v := ?_) rfl (by kernel_rfl) (by kernel_rfl) (by kernel_rfl) (fun _ _ _ h => h) (Or.inl ⟨by rfl, ?_⟩) (by assumption) ?_
    rotate_left
    · (first | (intro v hSw; (try dsimp only at hSw); go_simp; done) | (intro v hSw; (try dsimp only at hSw); go_simp; with_reducible rfl))
    (try simp only [List.getElem_toArray, List.getElem_cons_succ, List.getElem_cons_zero, Act.put, List.setIfInBounds_toArray, List.set_cons_zero, List.set_cons_succ])
    refine wpAnyH_ready (rs := [21]) (by kernel_rfl) (by simp) ?_
    refine AllReadyH.cons (o := _) rfl (fun K hK => ?_) AllReadyH.nil
    go_simp
    first | (have H := HC; clear HC) | (have H := G.put_m y)
    clear r0 r1 r2 r3 r4 r5 r6 r7 f0 f1 f2 f3 f4 f5 f6 f7 G
    refine hK.out _ _ ?_ (fun hHeld => ?_)
    · ((try dsimp only); with_reducible first | exact s11_of F.b0 F.op | exact s11_of H.d.b0 H.d.op | exact s11_of G.d.b0 G.d.op)
    clear hK K
    (try simp only [List.getElem_toArray, List.getElem_cons_succ, List.getElem_cons_zero, Act.put, List.setIfInBounds_toArray, List.set_cons_zero, List.set_cons_succ])
    refine wpAnyH_take (i := 22) (oi := _) (v := ?_) rfl (by kernel_rfl) (by kernel_rfl) (by kernel_rfl) (fun _ _ _ h => h) (Or.inl ⟨by rfl, ?_⟩) (by assumption) ?_
    rotate_left
    · (first | (intro v hSw; (try dsimp only at hSw); go_simp; done) | (intro v hSw; (try dsimp only at hSw); go_simp; with_reducible rfl))
    (try simp only [List.getElem_toArray, List.getElem_cons_succ, List.getElem_cons_zero, Act.put, List.setIfInBounds_toArray, List.set_cons_zero, List.set_cons_succ])
    refine wpAnyH_done (by kernel_rfl) ?_ _
    refine NoPanic.normal ?_
    clear hHeld
    go_wp2_with fail
    have R := H.drew
    have P0 := s11_of R.bm R.d.op
    clear H
    go_region_held3 (fun w' => w'.cell? ⟨m, 0, none⟩ = some (.int .i64 y.floor) ∧ w'.cell? ⟨m, 1, none⟩ = some (.int .i64 y.rtt) ∧ w'.cell? ⟨m, 2, none⟩ = some (.int .i64 y.order) ∧ w'.cell? ⟨m, 3, none⟩ = some (.int .i64 y.fin) ∧ w'.cell? ⟨m, 4, none⟩ = some (.bool y.mixed) ∧ w'.cell? ⟨m, 5, none⟩ = some (.int .i64 y.mult) ∧ w'.cell? ⟨m, 6, none⟩ = some (.int .i64 y.round) ∧ w'.cell? ⟨m, 7, none⟩ = some (.int .i64 y.rest) ∧ w'.cell? ⟨w.heap.size + 1, 1, none⟩ = some (.int .i64 s.r.f) ∧ w'.cell? ⟨w.heap.size + 1, 2, none⟩ = some (.int .i64 s.r.t) ∧ w'.cell? ⟨w.heap.size + 1, 3, none⟩ = some (.int .i64 s.r.sent) ∧ w'.cell? ⟨w.heap.size + 1, 4, none⟩ = some (.int .i64 s.r.order) ∧ w'.cell? ⟨w.heap.size + 1, 5, none⟩ = some (.int .i64 s.r.times) ∧ w'.cell? ⟨w.heap.size + 1, 6, none⟩ = some (.int .i64 s.r.out) ∧ w'.cell? ⟨w.heap.size + 1, 7, none⟩ = some (.bool s.r.lost) ∧ w'.cell? ⟨w.heap.size + 1, 8, none⟩ = some (.int .i64 s.now) ∧ w'.cell? ⟨w.heap.size + 1, 9, none⟩ = some (.int .i64 s.least) ∧ w'.cell? ⟨w.heap.size + 1, 10, none⟩ = some (.bool s.has) ∧ w'.cell? ⟨w.heap.size + 1, 11, none⟩ = some (.bool s.echo.1) ∧ w'.cell? ⟨w.heap.size + 1, 12, none⟩ = some (.int .u32 s.echo.2)) (with_reducible first | exact P3 | exact P1 | exact P0 | go_keep)
      ((go_at_call 19; (with_reducible refine (came_any R.d.rk s.r HV.out HN.out.1 HN.out.2).mono ?_); rw [HY.out.1, HY.out.2]; rintro e w5 ⟨rfl, q1, q2⟩; have R1 := R.wrote q1 q2; clear R q1 q2; have HE := R1.end_; have P1 := s11_of R1.bm R1.d.op; have P3 := s11_of R1.put.1 R1.put.2; obtain ⟨r0, r1, r2, r3, r4, r5, r6, r7⟩ := r8 R1.d.rs; have f0 := fofr R1.d.rs 0; have f1 := fofr R1.d.rs 1; have f2 := fofr R1.d.rs 2; have f3 := fofr R1.d.rs 3; have f4 := fofr R1.d.rs 4; have f5 := fofr R1.d.rs 5; have f6 := fofr R1.d.rs 6; have f7 := fofr R1.d.rs 7; have nr : m ≠ w.heap.size + 1 + 1 := (by have := R1.ml; omega); clear P0))
    obtain ⟨y0, y1, y2, y3, y4, y5, y6, y7⟩ := r8 HE.out.1
    have HFIN := Lib.hid HE.out.2
    clear HE R1 P1 P3 r0 r1 r2 r3 r4 r5 r6 r7 f0 f1 f2 f3 f4 f5 f6 f7 nr
    go_wp2_with fail
    exact bodyPost_ret (v := .tuple #[rkV y, .bool true]) (by simp [results, Try.results11, go_sem, y0, y1, y2, y3, y4, y5, y6, y7]) rfl ⟨rfl, HFIN.out.1, HFIN.out.2⟩
  refine AllReadyH.cons (o := _) rfl (fun K hK => ?_) AllReadyH.nil
  go_simp
  (first | (have G : D4 w X x x s w3.heap.size rkZ (w3.alloc (rkO rkZ)) := F.alloc rkZ; have HC : D4 w X x x s w3.heap.size y (w3.alloc (rkO y)) := F.alloc y; generalize hm : w3.heap.size = m at *) | (have G : D4 w X x x s w2.heap.size rkZ (w2.alloc (rkO rkZ)) := F.alloc rkZ; generalize hm : w2.heap.size = m at *) | (have G : D4 w X x x s W0.heap.size rkZ (W0.alloc (rkO rkZ)).drew := (F0.alloc rkZ).drew; generalize hm : W0.heap.size = m at *))
  clear F
  ((try clear r0 r1 r2 r3 r4 r5 r6 r7 f0 f1 f2 f3 f4 f5 f6 f7); obtain ⟨r0, r1, r2, r3, r4, r5, r6, r7⟩ := r8 G.bm; have f0 := fofr G.bm 0; have f1 := fofr G.bm 1; have f2 := fofr G.bm 2; have f3 := fofr G.bm 3; have f4 := fofr G.bm 4; have f5 := fofr G.bm 5; have f6 := fofr G.bm 6; have f7 := fofr G.bm 7)
  refine hK.out _ _ ?_ (fun hHeld => ?_)
  · ((try dsimp only); with_reducible first | exact s11_of F.b0 F.op | exact s11_of H.d.b0 H.d.op | exact s11_of G.d.b0 G.d.op)
  clear hK K
  (try simp only [List.getElem_toArray, List.getElem_cons_succ, List.getElem_cons_zero, Act.put, List.setIfInBounds_toArray, List.set_cons_zero, List.set_cons_succ])
  refine wpAnyH_ready (rs := [3]) (by kernel_rfl) (by simp) ?_
  refine AllReadyH.cons (o := _) rfl (fun K hK => ?_) AllReadyH.nil
  go_simp
  (go_at_call 18; (with_reducible refine (rec_any _ _).mono ?_); rintro e w2 ⟨rfl, q2⟩; (first | (replace F := F.later q2; clear q2) | (replace G := G.later q2; clear q2; (try clear r0 r1 r2 r3 r4 r5 r6 r7 f0 f1 f2 f3 f4 f5 f6 f7); obtain ⟨r0, r1, r2, r3, r4, r5, r6, r7⟩ := r8 G.bm; have f0 := fofr G.bm 0; have f1 := fofr G.bm 1; have f2 := fofr G.bm 2; have f3 := fofr G.bm 3; have f4 := fofr G.bm 4; have f5 := fofr G.bm 5; have f6 := fofr G.bm 6; have f7 := fofr G.bm 7)))
  refine hK.out _ _ ?_ (fun hHeld => ?_)
  · ((try dsimp only); with_reducible first | exact s11_of F.b0 F.op | exact s11_of H.d.b0 H.d.op | exact s11_of G.d.b0 G.d.op)
  clear hK K
  (try simp only [List.getElem_toArray, List.getElem_cons_succ, List.getElem_cons_zero, Act.put, List.setIfInBounds_toArray, List.set_cons_zero, List.set_cons_succ])
  refine wpAnyH_ready (rs := [16]) (by kernel_rfl) (by simp) ?_
  refine AllReadyH.cons (o := _) rfl (fun K hK => ?_) AllReadyH.nil
  go_simp
  (go_at_call 17; (with_reducible refine (rcame_any x s.r HV.out HN.out.1 HN.out.2 _).mono ?_); rw [HY.out.1, HY.out.2]; rintro e w3 ⟨rfl, q3⟩; (first | (replace F := F.later q3; clear q3) | (replace G := G.later q3; clear q3; (try clear r0 r1 r2 r3 r4 r5 r6 r7 f0 f1 f2 f3 f4 f5 f6 f7); obtain ⟨r0, r1, r2, r3, r4, r5, r6, r7⟩ := r8 G.bm; have f0 := fofr G.bm 0; have f1 := fofr G.bm 1; have f2 := fofr G.bm 2; have f3 := fofr G.bm 3; have f4 := fofr G.bm 4; have f5 := fofr G.bm 5; have f6 := fofr G.bm 6; have f7 := fofr G.bm 7)))
  refine hK.out _ _ ?_ (fun hHeld => ?_)
  · ((try dsimp only); with_reducible first | exact s11_of F.b0 F.op | exact s11_of H.d.b0 H.d.op | exact s11_of G.d.b0 G.d.op)
  clear hK K
  (try simp only [List.getElem_toArray, List.getElem_cons_succ, List.getElem_cons_zero, Act.put, List.setIfInBounds_toArray, List.set_cons_zero, List.set_cons_succ])
  refine wpAnyH_take (i := 17) (oi := _) (v := ?_) rfl (by kernel_rfl) (by kernel_rfl) (by kernel_rfl) (fun _ _ _ h => h) (Or.inl ⟨by rfl, ?_⟩) (by assumption) ?_
  rotate_left
  · (first | (intro v hSw; (try dsimp only at hSw); go_simp; done) | (intro v hSw; (try dsimp only at hSw); go_simp; with_reducible rfl))
  (try simp only [List.getElem_toArray, List.getElem_cons_succ, List.getElem_cons_zero, Act.put, List.setIfInBounds_toArray, List.set_cons_zero, List.set_cons_succ])
  refine wpAnyH_take (i := 18) (oi := _) (v := ?_) rfl (by kernel_rfl) (by kernel_rfl) (by kernel_rfl) (fun _ _ _ h => h) (Or.inl ⟨by rfl, ?_⟩) (by assumption) ?_
  rotate_left
  · (first | (intro v hSw; (try dsimp only at hSw); go_simp; done) | (intro v hSw; (try dsimp only at hSw); go_simp; with_reducible rfl))
  (try simp only [List.getElem_toArray, List.getElem_cons_succ, List.getElem_cons_zero, Act.put, List.setIfInBounds_toArray, List.set_cons_zero, List.set_cons_succ])
  refine wpAnyH_take (i := 19) (oi := _) (v := ?_) rfl (by kernel_rfl) (by kernel_rfl) (by kernel_rfl) (fun _ _ _ h => h) (Or.inl ⟨by rfl, ?_⟩) (by assumption) ?_
  rotate_left
  · (first | (intro v hSw; (try dsimp only at hSw); go_simp; done) | (intro v hSw; (try dsimp only at hSw); go_simp; with_reducible rfl))
  (try simp only [List.getElem_toArray, List.getElem_cons_succ, List.getElem_cons_zero, Act.put, List.setIfInBounds_toArray, List.set_cons_zero, List.set_cons_succ])
  refine wpAnyH_ready (rs := [21]) (by kernel_rfl) (by simp) ?_
  refine AllReadyH.cons (o := _) rfl (fun K hK => ?_) AllReadyH.nil
  go_simp
  first | (have H := HC; clear HC) | (have H := G.put_m y)
  clear r0 r1 r2 r3 r4 r5 r6 r7 f0 f1 f2 f3 f4 f5 f6 f7 G
  refine hK.out _ _ ?_ (fun hHeld => ?_)
  · ((try dsimp only); with_reducible first | exact s11_of F.b0 F.op | exact s11_of H.d.b0 H.d.op | exact s11_of G.d.b0 G.d.op)
  clear hK K
  (try simp only [List.getElem_toArray, List.getElem_cons_succ, List.getElem_cons_zero, Act.put, List.setIfInBounds_toArray, List.set_cons_zero, List.set_cons_succ])
  refine wpAnyH_take (i := 22) (oi := _) (v := ?_) rfl (by kernel_rfl) (by kernel_rfl) (by kernel_rfl) (fun _ _ _ h => h) (Or.inl ⟨by rfl, ?_⟩) (by assumption) ?_
  rotate_left
  · (first | (intro v hSw; (try dsimp only at hSw); go_simp; done) | (intro v hSw; (try dsimp only at hSw); go_simp; with_reducible rfl))
  (try simp only [List.getElem_toArray, List.getElem_cons_succ, List.getElem_cons_zero, Act.put, List.setIfInBounds_toArray, List.set_cons_zero, List.set_cons_succ])
  refine wpAnyH_done (by kernel_rfl) ?_ _
  refine NoPanic.normal ?_
  clear hHeld
  go_wp2_with fail
  have R := H.drew
  have P0 := s11_of R.bm R.d.op
  clear H
  go_region_held3 (fun w' => w'.cell? ⟨m, 0, none⟩ = some (.int .i64 y.floor) ∧ w'.cell? ⟨m, 1, none⟩ = some (.int .i64 y.rtt) ∧ w'.cell? ⟨m, 2, none⟩ = some (.int .i64 y.order) ∧ w'.cell? ⟨m, 3, none⟩ = some (.int .i64 y.fin) ∧ w'.cell? ⟨m, 4, none⟩ = some (.bool y.mixed) ∧ w'.cell? ⟨m, 5, none⟩ = some (.int .i64 y.mult) ∧ w'.cell? ⟨m, 6, none⟩ = some (.int .i64 y.round) ∧ w'.cell? ⟨m, 7, none⟩ = some (.int .i64 y.rest) ∧ w'.cell? ⟨w.heap.size + 1, 1, none⟩ = some (.int .i64 s.r.f) ∧ w'.cell? ⟨w.heap.size + 1, 2, none⟩ = some (.int .i64 s.r.t) ∧ w'.cell? ⟨w.heap.size + 1, 3, none⟩ = some (.int .i64 s.r.sent) ∧ w'.cell? ⟨w.heap.size + 1, 4, none⟩ = some (.int .i64 s.r.order) ∧ w'.cell? ⟨w.heap.size + 1, 5, none⟩ = some (.int .i64 s.r.times) ∧ w'.cell? ⟨w.heap.size + 1, 6, none⟩ = some (.int .i64 s.r.out) ∧ w'.cell? ⟨w.heap.size + 1, 7, none⟩ = some (.bool s.r.lost) ∧ w'.cell? ⟨w.heap.size + 1, 8, none⟩ = some (.int .i64 s.now) ∧ w'.cell? ⟨w.heap.size + 1, 9, none⟩ = some (.int .i64 s.least) ∧ w'.cell? ⟨w.heap.size + 1, 10, none⟩ = some (.bool s.has) ∧ w'.cell? ⟨w.heap.size + 1, 11, none⟩ = some (.bool s.echo.1) ∧ w'.cell? ⟨w.heap.size + 1, 12, none⟩ = some (.int .u32 s.echo.2)) (with_reducible first | exact P3 | exact P1 | exact P0 | go_keep)
    ((go_at_call 19; (with_reducible refine (came_any R.d.rk s.r HV.out HN.out.1 HN.out.2).mono ?_); rw [HY.out.1, HY.out.2]; rintro e w5 ⟨rfl, q1, q2⟩; have R1 := R.wrote q1 q2; clear R q1 q2; have HE := R1.end_; have P1 := s11_of R1.bm R1.d.op; have P3 := s11_of R1.put.1 R1.put.2; obtain ⟨r0, r1, r2, r3, r4, r5, r6, r7⟩ := r8 R1.d.rs; have f0 := fofr R1.d.rs 0; have f1 := fofr R1.d.rs 1; have f2 := fofr R1.d.rs 2; have f3 := fofr R1.d.rs 3; have f4 := fofr R1.d.rs 4; have f5 := fofr R1.d.rs 5; have f6 := fofr R1.d.rs 6; have f7 := fofr R1.d.rs 7; have nr : m ≠ w.heap.size + 1 + 1 := (by have := R1.ml; omega); clear P0))
  obtain ⟨y0, y1, y2, y3, y4, y5, y6, y7⟩ := r8 HE.out.1
  have HFIN := Lib.hid HE.out.2
  clear HE R1 P1 P3 r0 r1 r2 r3 r4 r5 r6 r7 f0 f1 f2 f3 f4 f5 f6 f7 nr
  go_wp2_with fail
  exact bodyPost_ret (v := .tuple #[rkV y, .bool true]) (by simp [results, Try.results11, go_sem, y0, y1, y2, y3, y4, y5, y6, y7]) rfl ⟨rfl, HFIN.out.1, HFIN.out.2⟩
end Go.Proofs.Ytfaaamlhkmmamaa.rk
