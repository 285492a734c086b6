/-
  What lies in memory in the law's does (written by gen_does.py with wind_tail.txt).
-/
import Derived.Test.YtphbflbgaadmeaaWinK
import Derived.Test.YtphbflbgaadmeaaWinO
namespace Go.Proofs.Ytphbflbgaadmeaa.wn
open Go.RowKit aid mem
attribute [local go_sem ↓] Go.wp_at_zero Go.wp_at_succ
set_option linter.unusedVariables false
set_option linter.unusedSimpArgs false

theorem cofr {w : World} {b : Nat} {cs : Array Value} {T : TypeId} (h : w.heap[b]? = some (.cells cs T (0, 0))) (i : Nat) (v : Value) (hv : cs[i]? = some v) : w.cell? ⟨b, i, none⟩ = some v := (cell_of_row w b i _ _ (0, 0) h).trans hv
theorem fofr {w : World} {b : Nat} {cs : Array Value} {T : TypeId} (h : w.heap[b]? = some (.cells cs T (0, 0))) (i : Nat) : w.frozen? ⟨b, i, none⟩ = false := by simp [World.frozen?, h]
abbrev opC (s : OpV) : Array Value := #[.int .u8 (s.kind), .int .i64 (s.a), .int .i64 (s.b)]
abbrev opO (s : OpV) : Obj := .cells (opC s) 36
abbrev zero : Wn := ⟨0, 0, 0, 0, 0⟩
abbrev St (b : Nat) (y : Wn) (w' : World) : Prop := w'.cell? ⟨b, 0, none⟩ = some (.int .i64 (y.mss)) ∧ w'.cell? ⟨b, 1, none⟩ = some (.int .i64 (y.most)) ∧ w'.cell? ⟨b, 2, none⟩ = some (.int .i64 (y.cwnd)) ∧ w'.cell? ⟨b, 3, none⟩ = some (.int .i64 (y.thresh)) ∧ w'.cell? ⟨b, 4, none⟩ = some (.int .i64 (y.count))
theorem st_of {w : World} {b : Nat} {y : Wn} (h : w.heap[b]? = some (wnO y)) : St b y w := ⟨cofr h 0 _ rfl, cofr h 1 _ rfl, cofr h 2 _ rfl, cofr h 3 _ rfl, cofr h 4 _ rfl⟩
abbrev Op (b : Nat) (s : OpV) (w' : World) : Prop := w'.cell? ⟨b, 0, none⟩ = some (.int .u8 (s.kind)) ∧ w'.cell? ⟨b, 1, none⟩ = some (.int .i64 (s.a)) ∧ w'.cell? ⟨b, 2, none⟩ = some (.int .i64 (s.b))
theorem op_cs {w : World} {b : Nat} {s : OpV} (h : w.heap[b]? = some (opO s)) : Op b s w := ⟨cofr h 0 _ rfl, cofr h 1 _ rfl, cofr h 2 _ rfl⟩
/-- the three boxes: what the document's was, what is told, what is answered -/
structure D0 (w : World) (X : Nat) (x : Wn) (x0 : Wn) (s : OpV) (W : World) : Prop where
  at_ : WnAt W X x
  b0 : W.heap[w.heap.size]? = some (wnO x0)
  op : W.heap[w.heap.size + 1]? = some (opO s)
  rs : W.heap[w.heap.size + 1 + 1]? = some (wnO zero)
  xl : X < w.heap.size
  kept : Kept [X] w W
/-- and one more -/
structure D4 (w : World) (X : Nat) (x x0 : Wn) (s : OpV) (m : Nat) (y : Wn) (W : World) : Prop where
  d : D0 w X x x0 s W
  bm : W.heap[m]? = some (wnO y)
  ml : w.heap.size + 1 + 1 < m
section
variable {w W W' : World} {X m : Nat} {x x0 x' y : Wn} {s : OpV}
theorem D0.later (h : D0 w X x x0 s W) (hb : Below W.heap.size W W') : D0 w X x x0 s W' :=
  ⟨h.at_.later hb, (hb.block _ (lt_of_block h.b0)).trans h.b0, (hb.block _ (lt_of_block h.op)).trans h.op, (hb.block _ (lt_of_block h.rs)).trans h.rs, h.xl, h.kept.trans (Kept.of_below hb (Nat.le_refl _) []) (by simp)⟩
theorem D0.wrote (h : D0 w X x x0 s W) (hx : WnAt W' X x') (hk : Kept [X] W W') : D0 w X x' x0 s W' := by
  have := h.xl
  exact ⟨hx, hk.heap (by simp; omega) h.b0, hk.heap (by simp; omega) h.op, hk.heap (by simp; omega) h.rs, h.xl, h.kept.trans hk (by simp)⟩
theorem D4.later (h : D4 w X x x0 s m y W) (hb : Below W.heap.size W W') : D4 w X x x0 s m y W' := ⟨h.d.later hb, (hb.block _ (lt_of_block h.bm)).trans h.bm, h.ml⟩
theorem D4.wrote (h : D4 w X x x0 s m y W) (hx : WnAt W' X x') (hk : Kept [X] W W') : D4 w X x' x0 s m y W' := by
  have := h.d.xl
  have := h.ml
  exact ⟨h.d.wrote hx hk, hk.heap (by simp; omega) h.bm, h.ml⟩
theorem D4.drew (h : D4 w X x x0 s m y W) : D4 w X x x0 s m y W.drew := ⟨⟨h.d.at_, h.d.b0, h.d.op, h.d.rs, h.d.xl, h.d.kept.drew⟩, h.bm, h.ml⟩
theorem D0.drew (h : D0 w X x x0 s W) : D0 w X x x0 s W.drew := ⟨h.at_, h.b0, h.op, h.rs, h.xl, h.kept.drew⟩
end
theorem d0_new {w : World} {X : Nat} {x : Wn} (h : WnAt w X x) (x0 : Wn) (s : OpV) : D0 w X x x0 s (((w.alloc (wnO x0)).alloc (opO s)).alloc (wnO zero)) := by
  have b1 := al w (wnO x0)
  have y1 := heap_alloc_new w (wnO x0)
  have z1 : (w.alloc (wnO x0)).heap.size = w.heap.size + 1 := by simp
  have hX := h.lt
  have h1 := h.later b1
  generalize w.alloc (wnO x0) = w1 at *
  have b2 := al w1 (opO s)
  have y2 := heap_alloc_new w1 (opO s)
  have z2 : (w1.alloc (opO s)).heap.size = w.heap.size + 1 + 1 := by simp [z1]
  rw [z1] at y2
  have h2 := h1.later b2
  have y3 := (b2.block _ (lt_of_block y1)).trans y1
  have bb := b1.trans (b2.mono b1.size)
  generalize w1.alloc (opO s) = w2 at *
  have b3 := al w2 (wnO zero)
  have y4 := heap_alloc_new w2 (wnO zero)
  rw [z2] at y4
  exact ⟨h2.later b3, (b3.block _ (lt_of_block y3)).trans y3, (b3.block _ (lt_of_block y2)).trans y2, y4, hX, Kept.of_below (bb.trans (b3.mono bb.size)) (Nat.le_refl _) _⟩
theorem D0.alloc {w W : World} {X : Nat} {x x0 : Wn} {s : OpV} (h : D0 w X x x0 s W) (y : Wn) : D4 w X x x0 s W.heap.size y (W.alloc (wnO y)) :=
  ⟨h.later (al W _), heap_alloc_new _ _, lt_of_block h.rs⟩
abbrev putA (n : Nat) (y : Wn) (W : World) : World := ((((W.setCell ⟨n, 0, none⟩ (.int .i64 (y.mss))).setCell ⟨n, 1, none⟩ (.int .i64 (y.most))).setCell ⟨n, 2, none⟩ (.int .i64 (y.cwnd))).setCell ⟨n, 3, none⟩ (.int .i64 (y.thresh))).setCell ⟨n, 4, none⟩ (.int .i64 (y.count))
theorem setp {w : World} {b i : Nat} {z z' : Wn} (h : w.heap[b]? = some (wnO z)) (u : Value) (hz : (cellsW z).setIfInBounds i u = cellsW z') : (w.setCell ⟨b, i, none⟩ u).heap[b]? = some (wnO z') := by
  have this : (w.setCell ⟨b, i, none⟩ u).heap[b]? = _ := heap_setCell_same _ _ i _ _ u h
  rw [hz] at this
  exact this
theorem putA_at {n : Nat} {z : Wn} {W : World} (h : W.heap[n]? = some (wnO z)) (y : Wn) : (putA n y W).heap[n]? = some (wnO y) := by
  unfold putA
  have g0 : (W.setCell ⟨n, 0, none⟩ (.int .i64 (y.mss))).heap[n]? = some (wnO ⟨y.mss, z.most, z.cwnd, z.thresh, z.count⟩) := setp h _ rfl
  generalize W.setCell ⟨n, 0, none⟩ (.int .i64 (y.mss)) = W0 at *
  have g1 : (W0.setCell ⟨n, 1, none⟩ (.int .i64 (y.most))).heap[n]? = some (wnO ⟨y.mss, y.most, z.cwnd, z.thresh, z.count⟩) := setp g0 _ rfl
  generalize W0.setCell ⟨n, 1, none⟩ (.int .i64 (y.most)) = W1 at *
  have g2 : (W1.setCell ⟨n, 2, none⟩ (.int .i64 (y.cwnd))).heap[n]? = some (wnO ⟨y.mss, y.most, y.cwnd, z.thresh, z.count⟩) := setp g1 _ rfl
  generalize W1.setCell ⟨n, 2, none⟩ (.int .i64 (y.cwnd)) = W2 at *
  have g3 : (W2.setCell ⟨n, 3, none⟩ (.int .i64 (y.thresh))).heap[n]? = some (wnO ⟨y.mss, y.most, y.cwnd, y.thresh, z.count⟩) := setp g2 _ rfl
  generalize W2.setCell ⟨n, 3, none⟩ (.int .i64 (y.thresh)) = W3 at *
  exact setp g3 _ rfl
theorem putA_kept (n : Nat) (y : Wn) (W : World) : Kept [n] W (putA n y W) :=
  (((((Kept.refl [n] W).setCell (.inl (by simp)) _).setCell (.inl (by simp)) _).setCell (.inl (by simp)) _).setCell (.inl (by simp)) _).setCell (.inl (by simp)) _
/-- the answer's box is written -/
def EndD (w : World) (X : Nat) (x y : Wn) (W : World) : Prop := W.heap[w.heap.size + 1 + 1]? = some (wnO y) ∧ WnAt W X x ∧ Kept [X] w W
theorem D0.end_ {w W : World} {X : Nat} {x x0 : Wn} {s : OpV} (h : D0 w X x x0 s W) (y : Wn) : Hid (EndD w X x y (putA (w.heap.size + 1 + 1) y W)) := by
  have kk := putA_kept (w.heap.size + 1 + 1) y W
  have := h.xl
  exact Lib.hid ⟨putA_at h.rs y, h.at_.keep kk (by simp; omega), h.kept.trans kk (fun b hb => .inr (by simp at hb; omega))⟩
theorem D4.put {w W : World} {X m : Nat} {x x0 y : Wn} {s : OpV} (h : D4 w X x x0 s m y W) : (putA (w.heap.size + 1 + 1) y W).heap[m]? = some (wnO y) ∧ (putA (w.heap.size + 1 + 1) y W).heap[w.heap.size + 1]? = some (opO s) := by
  have kk := putA_kept (w.heap.size + 1 + 1) y W
  have := h.ml
  exact ⟨kk.heap (by simp; omega) h.bm, kk.heap (by simp) h.d.op⟩
theorem al3 (w : World) (a b c : Obj) : Below w.heap.size w (((w.alloc a).alloc b).alloc c) := (((Below.refl _ _).alloc (Nat.le_refl _) _).alloc (by simp) _).alloc (by simp <;> omega) _
def okB (x q : Wn) (s : OpV) : Bool := if s.kind % 6 = 2 then decide (cutT x s.a = cutT q s.a) else true
def DoesP (w : World) (X : Nat) (x q : Wn) (s : OpV) (e : Ending) (w' : World) : Prop := e = .returned (.tuple #[wnV (stp q s.kind s.a s.b), .bool (okB x q s)]) ∧ WnAt w' X (stp x s.kind s.a s.b) ∧ Kept [X] w w'
set_option maxRecDepth 100000 in
set_option maxHeartbeats 4000000 in
theorem does_grow {w : World} {X : Nat} {x q : Wn} (h : WnAt w X x) (ho : Ok x) (hq : Ok q) {s : OpV} (hs : OpOk s) (h2 : ¬ s.kind % 6 = 2) (h3 : ¬ s.kind % 6 = 3) (h4 : ¬ s.kind % 6 = 4) (h5 : ¬ s.kind % 6 = 5) : Calls Try.prog 12 #[.pointer (some ⟨X, 0, none⟩), wnV q, .agg (opC s)] w (DoesP w X x q s) := by
  have HD := Lib.hid (d0_new h q s)
  obtain ⟨⟨k0, k1⟩, hs1, hs2⟩ := hs
  have HO := Lib.hid ho
  have HQ := Lib.hid hq
  clear h ho hq hs1 hs2
  obtain ⟨o0, o1, o2⟩ := op_cs HD.out.op
  obtain ⟨r0, r1, r2, r3, r4⟩ := st_of HD.out.b0
  unfold DoesP
  have HS : Hid (∀ z, stp z s.kind s.a s.b = grow z s.a) := Lib.hid (by intro z; unfold stp; rw [if_neg h2, if_neg h3, if_neg h4, if_neg h5])
  have HB : Hid (okB x q s = true) := Lib.hid (by unfold okB; rw [if_neg h2])
  rw [HB.out, HS.out, HS.out]
  clear HS HB
  generalize hy : grow q s.a = y
  have HY := Lib.hid hy
  clear hy
  go_enter Try.func12, Try.ntmps12
  go_wp2_with (first
    | (go_at_call 17; (with_reducible refine (grow_any HD.out.at_ HO.out _).mono ?_); rintro e w1 ⟨rfl, q1, q2⟩; have R := HD.out.wrote q1 q2; clear HD q1 q2 o0 o1 o2 r0 r1 r2 r3 r4; obtain ⟨o0, o1, o2⟩ := op_cs R.op; obtain ⟨r0, r1, r2, r3, r4⟩ := st_of R.b0)
    | (go_at_call 25; (with_reducible refine (rgrow_any HQ.out _).mono ?_); rw [HY.out]; rintro e w2 ⟨rfl, q1⟩; replace R := R.later q1; clear q1 r0 r1 r2 r3 r4 o0 o1 o2; have HE := R.end_ y; obtain ⟨r0, r1, r2, r3, r4⟩ := st_of R.rs; have f0 := fofr R.rs 0; have f1 := fofr R.rs 1; have f2 := fofr R.rs 2; have f3 := fofr R.rs 3; have f4 := fofr R.rs 4))
  obtain ⟨y0, y1, y2, y3, y4⟩ := st_of HE.out.1
  have HFIN := Lib.hid HE.out.2
  exact bodyPost_ret (v := .tuple #[wnV y, .bool true]) (by simp [results, Try.results12, go_sem, y0, y1, y2, y3, y4]) rfl ⟨rfl, HFIN.out.1, HFIN.out.2⟩

set_option maxRecDepth 100000 in
set_option maxHeartbeats 4000000 in
theorem does_put {w : World} {X : Nat} {x q : Wn} (h : WnAt w X x) (ho : Ok x) (hq : Ok q) {s : OpV} (hs : OpOk s) (h2 : ¬ s.kind % 6 = 2) (h3 : s.kind % 6 = 3) : Calls Try.prog 12 #[.pointer (some ⟨X, 0, none⟩), wnV q, .agg (opC s)] w (DoesP w X x q s) := by
  have HD := Lib.hid (d0_new h q s)
  obtain ⟨⟨k0, k1⟩, hs1, hs2⟩ := hs
  have HO := Lib.hid ho
  have HQ := Lib.hid hq
  clear h ho hq hs1 hs2
  obtain ⟨o0, o1, o2⟩ := op_cs HD.out.op
  obtain ⟨r0, r1, r2, r3, r4⟩ := st_of HD.out.b0
  unfold DoesP
  have HS : Hid (∀ z, stp z s.kind s.a s.b = put z s.a) := Lib.hid (by intro z; unfold stp; rw [if_neg h2, if_pos h3])
  have HB : Hid (okB x q s = true) := Lib.hid (by unfold okB; rw [if_neg h2])
  rw [HB.out, HS.out, HS.out]
  clear HS HB
  generalize hy : put q s.a = y
  have HY := Lib.hid hy
  clear hy
  go_enter Try.func12, Try.ntmps12
  go_wp2_with (first
    | (go_at_call 19; (with_reducible refine (set_any HD.out.at_ _).mono ?_); rintro e w1 ⟨rfl, q1, q2⟩; have R := HD.out.wrote q1 q2; clear HD q1 q2 o0 o1 o2 r0 r1 r2 r3 r4; obtain ⟨o0, o1, o2⟩ := op_cs R.op; obtain ⟨r0, r1, r2, r3, r4⟩ := st_of R.b0)
    | (go_at_call 23; (with_reducible refine (rset_any HQ.out _).mono ?_); rw [HY.out]; rintro e w2 ⟨rfl, q1⟩; replace R := R.later q1; clear q1 r0 r1 r2 r3 r4 o0 o1 o2; have HE := R.end_ y; obtain ⟨r0, r1, r2, r3, r4⟩ := st_of R.rs; have f0 := fofr R.rs 0; have f1 := fofr R.rs 1; have f2 := fofr R.rs 2; have f3 := fofr R.rs 3; have f4 := fofr R.rs 4))
  obtain ⟨y0, y1, y2, y3, y4⟩ := st_of HE.out.1
  have HFIN := Lib.hid HE.out.2
  exact bodyPost_ret (v := .tuple #[wnV y, .bool true]) (by simp [results, Try.results12, go_sem, y0, y1, y2, y3, y4]) rfl ⟨rfl, HFIN.out.1, HFIN.out.2⟩

set_option maxRecDepth 100000 in
set_option maxHeartbeats 4000000 in
theorem does_fall {w : World} {X : Nat} {x q : Wn} (h : WnAt w X x) (ho : Ok x) (hq : Ok q) {s : OpV} (hs : OpOk s) (h2 : ¬ s.kind % 6 = 2) (h3 : ¬ s.kind % 6 = 3) (h4 : s.kind % 6 = 4) : Calls Try.prog 12 #[.pointer (some ⟨X, 0, none⟩), wnV q, .agg (opC s)] w (DoesP w X x q s) := by
  have HD := Lib.hid (d0_new h q s)
  obtain ⟨⟨k0, k1⟩, hs1, hs2⟩ := hs
  have HO := Lib.hid ho
  have HQ := Lib.hid hq
  have HR : Hid (∀ W : World, Calls Try.prog 23 #[wnV q, .int .i64 q.mss] W (RetR (fall q) W)) := Lib.hid (by intro W; have := rset_any hq q.mss (w := W); rw [fall_put hq] at this; exact this)
  clear h ho hq hs1 hs2
  obtain ⟨o0, o1, o2⟩ := op_cs HD.out.op
  obtain ⟨r0, r1, r2, r3, r4⟩ := st_of HD.out.b0
  unfold DoesP
  have HS : Hid (∀ z, stp z s.kind s.a s.b = fall z) := Lib.hid (by intro z; unfold stp; rw [if_neg h2, if_neg h3, if_pos h4])
  have HB : Hid (okB x q s = true) := Lib.hid (by unfold okB; rw [if_neg h2])
  rw [HB.out, HS.out, HS.out]
  clear HS HB
  generalize hy : fall q = y
  have HY := Lib.hid hy
  clear hy
  go_enter Try.func12, Try.ntmps12
  go_wp2_with (first
    | (go_at_call 20; (with_reducible refine (fall_any HD.out.at_).mono ?_); rintro e w1 ⟨rfl, q1, q2⟩; have R := HD.out.wrote q1 q2; clear HD q1 q2 o0 o1 o2 r0 r1 r2 r3 r4; obtain ⟨o0, o1, o2⟩ := op_cs R.op; obtain ⟨r0, r1, r2, r3, r4⟩ := st_of R.b0)
    | (go_at_call 23; (with_reducible refine (HR.out _).mono ?_); rw [HY.out]; rintro e w2 ⟨rfl, q1⟩; replace R := R.later q1; clear q1 r0 r1 r2 r3 r4 o0 o1 o2; have HE := R.end_ y; obtain ⟨r0, r1, r2, r3, r4⟩ := st_of R.rs; have f0 := fofr R.rs 0; have f1 := fofr R.rs 1; have f2 := fofr R.rs 2; have f3 := fofr R.rs 3; have f4 := fofr R.rs 4))
  obtain ⟨y0, y1, y2, y3, y4⟩ := st_of HE.out.1
  have HFIN := Lib.hid HE.out.2
  exact bodyPost_ret (v := .tuple #[wnV y, .bool true]) (by simp [results, Try.results12, go_sem, y0, y1, y2, y3, y4]) rfl ⟨rfl, HFIN.out.1, HFIN.out.2⟩

set_option maxRecDepth 100000 in
set_option maxHeartbeats 4000000 in
theorem does_lift {w : World} {X : Nat} {x q : Wn} (h : WnAt w X x) (ho : Ok x) (hq : Ok q) {s : OpV} (hs : OpOk s) (h2 : ¬ s.kind % 6 = 2) (h3 : ¬ s.kind % 6 = 3) (h4 : ¬ s.kind % 6 = 4) (h5 : s.kind % 6 = 5) : Calls Try.prog 12 #[.pointer (some ⟨X, 0, none⟩), wnV q, .agg (opC s)] w (DoesP w X x q s) := by
  have HD := Lib.hid (d0_new h q s)
  obtain ⟨⟨k0, k1⟩, hs1, hs2⟩ := hs
  have HO := Lib.hid ho
  have HQ := Lib.hid hq
  clear h ho hq hs1 hs2
  obtain ⟨o0, o1, o2⟩ := op_cs HD.out.op
  obtain ⟨r0, r1, r2, r3, r4⟩ := st_of HD.out.b0
  unfold DoesP
  have HS : Hid (∀ z, stp z s.kind s.a s.b = lift z s.a s.b) := Lib.hid (by intro z; unfold stp; rw [if_neg h2, if_neg h3, if_neg h4, if_pos h5])
  have HB : Hid (okB x q s = true) := Lib.hid (by unfold okB; rw [if_neg h2])
  rw [HB.out, HS.out, HS.out]
  clear HS HB
  generalize hy : lift q s.a s.b = y
  have HY := Lib.hid hy
  clear hy
  go_enter Try.func12, Try.ntmps12
  go_wp2_with (first
    | (go_at_call 18; (with_reducible refine (lift_any HD.out.at_ _ _).mono ?_); rintro e w1 ⟨rfl, q1, q2⟩; have R := HD.out.wrote q1 q2; clear HD q1 q2 o0 o1 o2 r0 r1 r2 r3 r4; obtain ⟨o0, o1, o2⟩ := op_cs R.op; obtain ⟨r0, r1, r2, r3, r4⟩ := st_of R.b0)
    | (go_at_call 24; (with_reducible refine (rlift_any HQ.out _ _).mono ?_); rw [HY.out]; rintro e w2 ⟨rfl, q1⟩; replace R := R.later q1; clear q1 r0 r1 r2 r3 r4 o0 o1 o2; have HE := R.end_ y; obtain ⟨r0, r1, r2, r3, r4⟩ := st_of R.rs; have f0 := fofr R.rs 0; have f1 := fofr R.rs 1; have f2 := fofr R.rs 2; have f3 := fofr R.rs 3; have f4 := fofr R.rs 4))
  obtain ⟨y0, y1, y2, y3, y4⟩ := st_of HE.out.1
  have HFIN := Lib.hid HE.out.2
  exact bodyPost_ret (v := .tuple #[wnV y, .bool true]) (by simp [results, Try.results12, go_sem, y0, y1, y2, y3, y4]) rfl ⟨rfl, HFIN.out.1, HFIN.out.2⟩

theorem s4_of {W : World} {n m : Nat} {y : Wn} {s : OpV} (h1 : W.heap[m]? = some (wnO y)) (h2 : W.heap[n]? = some (opO s)) : W.cell? ⟨m, 0, none⟩ = some (.int .i64 y.mss) ∧ W.cell? ⟨m, 1, none⟩ = some (.int .i64 y.most) ∧ W.cell? ⟨m, 2, none⟩ = some (.int .i64 y.cwnd) ∧ W.cell? ⟨m, 3, none⟩ = some (.int .i64 y.thresh) ∧ W.cell? ⟨m, 4, none⟩ = some (.int .i64 y.count) ∧ W.cell? ⟨n, 1, none⟩ = some (.int .i64 s.a) := by
  obtain ⟨o0, o1, o2⟩ := op_cs h2
  obtain ⟨r0, r1, r2, r3, r4⟩ := st_of h1
  exact ⟨r0, r1, r2, r3, r4, o1⟩
set_option maxRecDepth 100000 in
set_option maxHeartbeats 4000000 in
theorem does_cut {w : World} {X : Nat} {x q : Wn} (h : WnAt w X x) (ho : Ok x) (hq : Ok q) {s : OpV} (hs : OpOk s) (h2 : s.kind % 6 = 2) : Calls Try.prog 12 #[.pointer (some ⟨X, 0, none⟩), wnV q, .agg (opC s)] w (DoesP w X x q s) := by
  have HD := Lib.hid (d0_new h q s)
  obtain ⟨⟨k0, k1⟩, hs1, hs2⟩ := hs
  have HO := Lib.hid ho
  have HQ := Lib.hid hq
  clear h ho hq hs1 hs2
  obtain ⟨o0, o1, o2⟩ := op_cs HD.out.op
  obtain ⟨r0, r1, r2, r3, r4⟩ := st_of HD.out.b0
  unfold DoesP
  have HS : Hid (∀ z, stp z s.kind s.a s.b = cut z s.a) := Lib.hid (by intro z; unfold stp; rw [if_pos h2])
  have HB : Hid (okB x q s = decide (cutT x s.a = (cut q s.a).thresh)) := Lib.hid (by unfold okB; rw [if_pos h2]; rfl)
  rw [HB.out, HS.out, HS.out]
  clear HS HB
  generalize hy : cut q s.a = y
  have HY := Lib.hid hy
  clear hy
  generalize hu : cutT x s.a = u
  have HU := Lib.hid hu
  clear hu
  go_enter Try.func12, Try.ntmps12
  go_wp2_with (go_at_call 22; (with_reducible refine (rcut_any HQ.out _).mono ?_); rw [HY.out]; rintro e w1 ⟨rfl, q1⟩)
  have R := ((HD.out.later q1).alloc y).drew
  clear q1 HD o0 o1 o2 r0 r1 r2 r3 r4
  generalize hm : w1.heap.size = m at *
  generalize w1.alloc (wnO y) = W1 at *
  have P0 := s4_of R.bm R.d.op
  go_region_held3 (fun w' => w'.cell? ⟨m, 0, none⟩ = some (.int .i64 y.mss) ∧ w'.cell? ⟨m, 1, none⟩ = some (.int .i64 y.most) ∧ w'.cell? ⟨m, 2, none⟩ = some (.int .i64 y.cwnd) ∧ w'.cell? ⟨m, 3, none⟩ = some (.int .i64 y.thresh) ∧ w'.cell? ⟨m, 4, none⟩ = some (.int .i64 y.count) ∧ w'.cell? ⟨w.heap.size + 1, 1, none⟩ = some (.int .i64 s.a)) (with_reducible first | exact P3 | exact P1 | exact P0 | go_keep)
    ((go_at_call 16; (with_reducible refine (cut_any R.d.at_ HO.out _).mono ?_); rw [HU.out]; rintro e w2 ⟨rfl, q1, q2⟩; have R1 := R.wrote q1 q2; clear R q1 q2; have HE := R1.d.end_ y; have P1 := s4_of R1.bm R1.d.op; have P3 := s4_of R1.put.1 R1.put.2; obtain ⟨r0, r1, r2, r3, r4⟩ := st_of R1.d.rs; have f0 := fofr R1.d.rs 0; have f1 := fofr R1.d.rs 1; have f2 := fofr R1.d.rs 2; have f3 := fofr R1.d.rs 3; have f4 := fofr R1.d.rs 4; have nr : m ≠ w.heap.size + 1 + 1 := (by have := R1.ml; omega); clear P0))
  obtain ⟨y0, y1, y2, y3, y4⟩ := st_of HE.out.1
  have HFIN := Lib.hid HE.out.2
  clear HE R1 P1 P3 r0 r1 r2 r3 r4 f0 f1 f2 f3 f4 nr
  go_wp2_with fail
  exact bodyPost_ret (v := .tuple #[wnV y, .bool (u == y.thresh)]) (by simp [results, Try.results12, go_sem, y0, y1, y2, y3, y4]) rfl ⟨rfl, HFIN.out.1, HFIN.out.2⟩
theorem does_any {w : World} {X : Nat} {x q : Wn} (h : WnAt w X x) (ho : Ok x) (hq : Ok q) {s : OpV} (hs : OpOk s) : Calls Try.prog 12 #[.pointer (some ⟨X, 0, none⟩), wnV q, .agg (opC s)] w (DoesP w X x q s) := by
  by_cases h2 : s.kind % 6 = 2
  · exact does_cut h ho hq hs h2
  by_cases h3 : s.kind % 6 = 3
  · exact does_put h ho hq hs h2 h3
  by_cases h4 : s.kind % 6 = 4
  · exact does_fall h ho hq hs h2 h3 h4
  by_cases h5 : s.kind % 6 = 5
  · exact does_lift h ho hq hs h2 h3 h4 h5
  exact does_grow h ho hq hs h2 h3 h4 h5
theorem okB_self (x : Wn) (s : OpV) : okB x x s = true := by unfold okB; split <;> simp
end Go.Proofs.Ytphbflbgaadmeaa.wn
