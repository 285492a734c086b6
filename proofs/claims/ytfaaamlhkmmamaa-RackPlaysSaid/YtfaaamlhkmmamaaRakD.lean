/-
  Layer 15's law: equal, does (written by gen_rakd.py out of rakd_head.txt).
-/
import Derived.Test.YtfaaamlhkmmamaaRakK
import Derived.Test.YtfaaamlhkmmamaaRakO
namespace Go.Proofs.Ytfaaamlhkmmamaa.rk
open Go.RowKit aid mem bk
attribute [local go_sem ↓] Go.wp_at_zero Go.wp_at_succ
set_option linter.unusedVariables false
set_option linter.unusedSimpArgs false

abbrev rkO (x : Rk) : Obj := .cells (rkC x) 38
abbrev opC (s : OpV) : Array Value := #[.int .u8 s.kind, .int .i64 s.r.f, .int .i64 s.r.t, .int .i64 s.r.sent, .int .i64 s.r.order, .int .i64 s.r.times, .int .i64 s.r.out, .bool s.r.lost, .int .i64 s.now, .int .i64 s.least, .bool s.has, .bool s.echo.1, .int .u32 s.echo.2, .int .i64 s.a, .int .i64 s.b]
abbrev opO (s : OpV) : Obj := .cells (opC s) 31
abbrev R8 (b : Nat) (y : Rk) (w' : World) : Prop := w'.cell? ⟨b, 0, none⟩ = some (.int .i64 y.floor) ∧ w'.cell? ⟨b, 1, none⟩ = some (.int .i64 y.rtt) ∧ w'.cell? ⟨b, 2, none⟩ = some (.int .i64 y.order) ∧ w'.cell? ⟨b, 3, none⟩ = some (.int .i64 y.fin) ∧ w'.cell? ⟨b, 4, none⟩ = some (.bool y.mixed) ∧ w'.cell? ⟨b, 5, none⟩ = some (.int .i64 y.mult) ∧ w'.cell? ⟨b, 6, none⟩ = some (.int .i64 y.round) ∧ w'.cell? ⟨b, 7, none⟩ = some (.int .i64 y.rest)
theorem r8 {w : World} {b : Nat} {y : Rk} (h : w.heap[b]? = some (rkO y)) : R8 b y w := ⟨cofr h 0 _ rfl, cofr h 1 _ rfl, cofr h 2 _ rfl, cofr h 3 _ rfl, cofr h 4 _ rfl, cofr h 5 _ rfl, cofr h 6 _ rfl, cofr h 7 _ rfl⟩
/-- rack's, and the document's in a box -/
structure Eq (w0 : World) (B : Nat) (e : Rk) (X : Nat) (w : World) : Prop where
  s : RkAt w B e
  x : w.heap[X]? = some (rkO e)
  below : Below w0.heap.size w0 w
theorem Eq.later {w0 w w' : World} {B X : Nat} {e : Rk} (h : Eq w0 B e X w) (hb : Below w.heap.size w w') : Eq w0 B e X w' := ⟨h.s.later hb, (hb.block X (lt_of_block h.x)).trans h.x, h.below.trans (hb.mono h.below.size)⟩
theorem Eq.rc {w0 w : World} {B X : Nat} {e : Rk} (h : Eq w0 B e X w) : w.cell? ⟨X, 1, none⟩ = some (.int .i64 e.rtt) ∧ w.cell? ⟨X, 2, none⟩ = some (.int .i64 e.order) ∧ w.cell? ⟨X, 4, none⟩ = some (.bool e.mixed) ∧ w.cell? ⟨X, 5, none⟩ = some (.int .i64 e.mult) := ⟨cofr h.x 1 _ rfl, cofr h.x 2 _ rfl, cofr h.x 4 _ rfl, cofr h.x 5 _ rfl⟩
theorem Eq.drew {w0 w : World} {B X : Nat} {e : Rk} (h : Eq w0 B e X w) : Eq w0 B e X w.drew := ⟨h.s, h.x, h.below.drew⟩
set_option maxHeartbeats 2000000 in
theorem equal_any {w : World} {B : Nat} {e : Rk} (h : RkAt w B e) : Calls Try.prog 12 #[.pointer (some ⟨B, 0, none⟩), rkV e] w fun x w' => x = .returned (.bool true) ∧ Below w.heap.size w w' := by
  have hb0 : Below w.heap.size w (w.alloc (rkO e)) := (Below.refl _ _).alloc (Nat.le_refl _) _
  have S : Eq w B e w.heap.size (w.alloc (rkO e)) := ⟨h.later hb0, heap_alloc_new w _, hb0⟩
  have H3 := Lib.hid (fun W (S : RkAt W B e) => (rtt_q S).below)
  have H4 := Lib.hid (fun W (S : RkAt W B e) => (order_q S).below)
  have H5 := Lib.hid (fun W (S : RkAt W B e) => (mixed_q S).below)
  have H6 := Lib.hid (fun W (S : RkAt W B e) => (mult_q S).below)
  clear h hb0
  go_enter Try.func12, Try.ntmps12
  go_wp2_with fail
  generalize hX : w.heap.size = X at *
  replace S := S.drew
  go_region_held3 (fun w' => w'.cell? ⟨X, 1, none⟩ = some (.int .i64 e.rtt) ∧ w'.cell? ⟨X, 2, none⟩ = some (.int .i64 e.order) ∧ w'.cell? ⟨X, 4, none⟩ = some (.bool e.mixed) ∧ w'.cell? ⟨X, 5, none⟩ = some (.int .i64 e.mult)) (first | exact S.rc | go_keep)
    (first
    | (go_at_call 24; (with_reducible refine (H3.out _ S.s).mono ?_); rintro x w1 ⟨rfl, hb⟩; replace S := S.later hb; clear hb)
    | (go_at_call 25; (with_reducible refine (H4.out _ S.s).mono ?_); rintro x w1 ⟨rfl, hb⟩; replace S := S.later hb; clear hb)
    | (go_at_call 30; (with_reducible refine (H5.out _ S.s).mono ?_); rintro x w1 ⟨rfl, hb⟩; replace S := S.later hb; clear hb)
    | (go_at_call 29; (with_reducible refine (H6.out _ S.s).mono ?_); rintro x w1 ⟨rfl, hb⟩; replace S := S.later hb; clear hb))
  go_wp2
  go_ret
  exact ⟨rfl, S.below⟩
def stp (x : Rk) (s : OpV) : Rk := if s.kind % 4 = 2 then dup x s.a s.b else if s.kind % 4 = 3 then calm x else if s.r.sent < 0 ∨ 4611686018427387904 < s.r.sent ∨ s.now < 0 ∨ 4611686018427387904 < s.now then x else came x s.r s.now s.least s.has s.echo.1 s.echo.2
theorem Ok.stp {x : Rk} (h : Ok x) (s : OpV) : Ok (stp x s) := by
  unfold rk.stp
  split
  · exact h.dup _ _
  split
  · exact h.calm
  split
  · exact h
  · next hn => exact h.came (by omega) (by omega)
theorem stp_floor (x : Rk) (s : OpV) : (stp x s).floor = x.floor := by
  unfold stp dup calm came rch
  split
  · split <;> rfl
  split
  · split <;> rfl
  split
  · rfl
  · split <;> rfl
abbrev rkZ : Rk := ⟨0, 0, 0, 0, false, 0, 0, 0⟩
/-- the three boxes: what the document's was, what is told, what is answered -/
structure D0 (w : World) (X : Nat) (x x0 : Rk) (s : OpV) (W : World) : Prop where
  rk : RkAt W X x
  b0 : W.heap[w.heap.size]? = some (rkO x0)
  op : W.heap[w.heap.size + 1]? = some (opO s)
  rs : W.heap[w.heap.size + 1 + 1]? = some (rkO rkZ)
  xl : X < w.heap.size
  kept : Kept [X] w W
/-- and one more -/
structure D4 (w : World) (X : Nat) (x x0 : Rk) (s : OpV) (m : Nat) (y : Rk) (W : World) : Prop where
  d : D0 w X x x0 s W
  bm : W.heap[m]? = some (rkO y)
  ml : w.heap.size + 1 + 1 < m
section
variable {w W W' : World} {X m : Nat} {x x0 x' y : Rk} {s : OpV}
theorem D0.later (h : D0 w X x x0 s W) (hb : Below W.heap.size W W') : D0 w X x x0 s W' :=
  ⟨h.rk.later hb, (hb.block _ (lt_of_block h.b0)).trans h.b0, (hb.block _ (lt_of_block h.op)).trans h.op, (hb.block _ (lt_of_block h.rs)).trans h.rs, h.xl, h.kept.trans (Kept.of_below hb (Nat.le_refl _) []) (by simp)⟩
theorem D0.wrote (h : D0 w X x x0 s W) (hx : RkAt W' X x') (hk : Kept [X] W W') : D0 w X x' x0 s W' := by
  have := h.xl
  exact ⟨hx, hk.heap (by simp; omega) h.b0, hk.heap (by simp; omega) h.op, hk.heap (by simp; omega) h.rs, h.xl, h.kept.trans hk (by simp)⟩
theorem D4.later (h : D4 w X x x0 s m y W) (hb : Below W.heap.size W W') : D4 w X x x0 s m y W' := ⟨h.d.later hb, (hb.block _ (lt_of_block h.bm)).trans h.bm, h.ml⟩
theorem D4.wrote (h : D4 w X x x0 s m y W) (hx : RkAt W' X x') (hk : Kept [X] W W') : D4 w X x' x0 s m y W' := by
  have := h.d.xl
  have := h.ml
  exact ⟨h.d.wrote hx hk, hk.heap (by simp; omega) h.bm, h.ml⟩
theorem D4.drew (h : D4 w X x x0 s m y W) : D4 w X x x0 s m y W.drew := ⟨⟨h.d.rk, h.d.b0, h.d.op, h.d.rs, h.d.xl, h.d.kept.drew⟩, h.bm, h.ml⟩
theorem D0.drew (h : D0 w X x x0 s W) : D0 w X x x0 s W.drew := ⟨h.rk, h.b0, h.op, h.rs, h.xl, h.kept.drew⟩
theorem op_cs (h : W.heap[m]? = some (opO s)) : W.cell? ⟨m, 0, none⟩ = some (.int .u8 s.kind) ∧ W.cell? ⟨m, 1, none⟩ = some (.int .i64 s.r.f) ∧ W.cell? ⟨m, 2, none⟩ = some (.int .i64 s.r.t) ∧ W.cell? ⟨m, 3, none⟩ = some (.int .i64 s.r.sent) ∧ W.cell? ⟨m, 4, none⟩ = some (.int .i64 s.r.order) ∧ W.cell? ⟨m, 5, none⟩ = some (.int .i64 s.r.times) ∧ W.cell? ⟨m, 6, none⟩ = some (.int .i64 s.r.out) ∧ W.cell? ⟨m, 7, none⟩ = some (.bool s.r.lost) ∧ W.cell? ⟨m, 8, none⟩ = some (.int .i64 s.now) ∧ W.cell? ⟨m, 9, none⟩ = some (.int .i64 s.least) ∧ W.cell? ⟨m, 10, none⟩ = some (.bool s.has) ∧ W.cell? ⟨m, 11, none⟩ = some (.bool s.echo.1) ∧ W.cell? ⟨m, 12, none⟩ = some (.int .u32 s.echo.2) ∧ W.cell? ⟨m, 13, none⟩ = some (.int .i64 s.a) ∧ W.cell? ⟨m, 14, none⟩ = some (.int .i64 s.b) :=
  ⟨cofr h 0 _ rfl, cofr h 1 _ rfl, cofr h 2 _ rfl, cofr h 3 _ rfl, cofr h 4 _ rfl, cofr h 5 _ rfl, cofr h 6 _ rfl, cofr h 7 _ rfl, cofr h 8 _ rfl, cofr h 9 _ rfl, cofr h 10 _ rfl, cofr h 11 _ rfl, cofr h 12 _ rfl, cofr h 13 _ rfl, cofr h 14 _ rfl⟩
end
theorem d0_new {w : World} {X : Nat} {x : Rk} (h : RkAt w X x) (s : OpV) : D0 w X x x s (((w.alloc (rkO x)).alloc (opO s)).alloc (rkO rkZ)) := by
  have b1 := al w (rkO x)
  have y1 := heap_alloc_new w (rkO x)
  have z1 : (w.alloc (rkO x)).heap.size = w.heap.size + 1 := by simp
  have hX := h.lt
  have h1 := h.later b1
  generalize w.alloc (rkO x) = w1 at *
  have b2 := al w1 (opO s)
  have y2 := heap_alloc_new w1 (opO s)
  have z2 : (w1.alloc (opO s)).heap.size = w.heap.size + 1 + 1 := by simp [z1]
  rw [z1] at y2
  have h2 := h1.later b2
  have y3 := (b2.block _ (lt_of_block y1)).trans y1
  have bb := b1.trans (b2.mono b1.size)
  generalize w1.alloc (opO s) = w2 at *
  have b3 := al w2 (rkO rkZ)
  have y4 := heap_alloc_new w2 (rkO rkZ)
  rw [z2] at y4
  exact ⟨h2.later b3, (b3.block _ (lt_of_block y3)).trans y3, (b3.block _ (lt_of_block y2)).trans y2, y4, hX, Kept.of_below (bb.trans (b3.mono bb.size)) (Nat.le_refl _) _⟩
theorem D0.alloc {w W : World} {X : Nat} {x x0 : Rk} {s : OpV} (h : D0 w X x x0 s W) (y : Rk) : D4 w X x x0 s W.heap.size y (W.alloc (rkO y)) :=
  ⟨h.later (al W _), heap_alloc_new _ _, lt_of_block h.rs⟩
abbrev put8 (n : Nat) (y : Rk) (W : World) : World := (((((((W.setCell ⟨n, 0, none⟩ (.int .i64 y.floor)).setCell ⟨n, 1, none⟩ (.int .i64 y.rtt)).setCell ⟨n, 2, none⟩ (.int .i64 y.order)).setCell ⟨n, 3, none⟩ (.int .i64 y.fin)).setCell ⟨n, 4, none⟩ (.bool y.mixed)).setCell ⟨n, 5, none⟩ (.int .i64 y.mult)).setCell ⟨n, 6, none⟩ (.int .i64 y.round)).setCell ⟨n, 7, none⟩ (.int .i64 y.rest)
theorem put8_at {n : Nat} {z : Rk} {W : World} (h : W.heap[n]? = some (rkO z)) (y : Rk) : (put8 n y W).heap[n]? = some (rkO y) := by
  unfold put8
  have g0 : (W.setCell ⟨n, 0, none⟩ (.int .i64 y.floor)).heap[n]? = some (rkO ⟨y.floor, z.rtt, z.order, z.fin, z.mixed, z.mult, z.round, z.rest⟩) := setp h _
  generalize W.setCell ⟨n, 0, none⟩ (.int .i64 y.floor) = W0 at *
  have g1 : (W0.setCell ⟨n, 1, none⟩ (.int .i64 y.rtt)).heap[n]? = some (rkO ⟨y.floor, y.rtt, z.order, z.fin, z.mixed, z.mult, z.round, z.rest⟩) := setp g0 _
  generalize W0.setCell ⟨n, 1, none⟩ (.int .i64 y.rtt) = W1 at *
  have g2 : (W1.setCell ⟨n, 2, none⟩ (.int .i64 y.order)).heap[n]? = some (rkO ⟨y.floor, y.rtt, y.order, z.fin, z.mixed, z.mult, z.round, z.rest⟩) := setp g1 _
  generalize W1.setCell ⟨n, 2, none⟩ (.int .i64 y.order) = W2 at *
  have g3 : (W2.setCell ⟨n, 3, none⟩ (.int .i64 y.fin)).heap[n]? = some (rkO ⟨y.floor, y.rtt, y.order, y.fin, z.mixed, z.mult, z.round, z.rest⟩) := setp g2 _
  generalize W2.setCell ⟨n, 3, none⟩ (.int .i64 y.fin) = W3 at *
  have g4 : (W3.setCell ⟨n, 4, none⟩ (.bool y.mixed)).heap[n]? = some (rkO ⟨y.floor, y.rtt, y.order, y.fin, y.mixed, z.mult, z.round, z.rest⟩) := setp g3 _
  generalize W3.setCell ⟨n, 4, none⟩ (.bool y.mixed) = W4 at *
  have g5 : (W4.setCell ⟨n, 5, none⟩ (.int .i64 y.mult)).heap[n]? = some (rkO ⟨y.floor, y.rtt, y.order, y.fin, y.mixed, y.mult, z.round, z.rest⟩) := setp g4 _
  generalize W4.setCell ⟨n, 5, none⟩ (.int .i64 y.mult) = W5 at *
  have g6 : (W5.setCell ⟨n, 6, none⟩ (.int .i64 y.round)).heap[n]? = some (rkO ⟨y.floor, y.rtt, y.order, y.fin, y.mixed, y.mult, y.round, z.rest⟩) := setp g5 _
  generalize W5.setCell ⟨n, 6, none⟩ (.int .i64 y.round) = W6 at *
  exact setp g6 _
theorem put8_kept (n : Nat) (y : Rk) (W : World) : Kept [n] W (put8 n y W) :=
  ((((((((Kept.refl [n] W).setCell (.inl (by simp)) _).setCell (.inl (by simp)) _).setCell (.inl (by simp)) _).setCell (.inl (by simp)) _).setCell (.inl (by simp)) _).setCell (.inl (by simp)) _).setCell (.inl (by simp)) _).setCell (.inl (by simp)) _
/-- the answer's box is written -/
theorem D4.end_ {w W : World} {X m : Nat} {x x0 y : Rk} {s : OpV} (h : D4 w X x x0 s m y W) : Hid ((put8 (w.heap.size + 1 + 1) y W).heap[w.heap.size + 1 + 1]? = some (rkO y) ∧ RkAt (put8 (w.heap.size + 1 + 1) y W) X x ∧ Kept [X] w (put8 (w.heap.size + 1 + 1) y W)) := by
  have kk := put8_kept (w.heap.size + 1 + 1) y W
  have := h.d.xl
  exact Lib.hid ⟨put8_at h.d.rs y, h.d.rk.keep kk (by simp; omega), h.d.kept.trans kk (fun b hb => .inr (by simp at hb; omega))⟩
theorem D0.end_ {w W : World} {X : Nat} {x x0 : Rk} {s : OpV} (h : D0 w X x x0 s W) (y : Rk) : Hid ((put8 (w.heap.size + 1 + 1) y W).heap[w.heap.size + 1 + 1]? = some (rkO y) ∧ RkAt (put8 (w.heap.size + 1 + 1) y W) X x ∧ Kept [X] w (put8 (w.heap.size + 1 + 1) y W)) := by
  have kk := put8_kept (w.heap.size + 1 + 1) y W
  have := h.xl
  exact Lib.hid ⟨put8_at h.rs y, h.rk.keep kk (by simp; omega), h.kept.trans kk (fun b hb => .inr (by simp at hb; omega))⟩
/-- a new box is written -/
theorem D4.put_m {w W : World} {X m : Nat} {x x0 z : Rk} {s : OpV} (h : D4 w X x x0 s m z W) (y : Rk) : D4 w X x x0 s m y (put8 m y W) := by
  have kk := put8_kept m y W
  have := h.ml
  have := h.d.xl
  exact ⟨⟨h.d.rk.keep kk (by simp; omega), kk.heap (by simp; omega) h.d.b0, kk.heap (by simp; omega) h.d.op, kk.heap (by simp; omega) h.d.rs, h.d.xl, h.d.kept.trans kk (fun b hb => .inr (by simp at hb; omega))⟩, put8_at h.bm y, h.ml⟩
theorem D4.put {w W : World} {X m : Nat} {x x0 y : Rk} {s : OpV} (h : D4 w X x x0 s m y W) : (put8 (w.heap.size + 1 + 1) y W).heap[m]? = some (rkO y) ∧ (put8 (w.heap.size + 1 + 1) y W).heap[w.heap.size + 1]? = some (opO s) := by
  have kk := put8_kept (w.heap.size + 1 + 1) y W
  have := h.ml
  exact ⟨kk.heap (by simp; omega) h.bm, kk.heap (by simp) h.d.op⟩
abbrev S4 (n m : Nat) (y : Rk) (s : OpV) (w' : World) : Prop := w'.cell? ⟨m, 0, none⟩ = some (.int .i64 y.floor) ∧ w'.cell? ⟨m, 1, none⟩ = some (.int .i64 y.rtt) ∧ w'.cell? ⟨m, 2, none⟩ = some (.int .i64 y.order) ∧ w'.cell? ⟨m, 3, none⟩ = some (.int .i64 y.fin) ∧ w'.cell? ⟨m, 4, none⟩ = some (.bool y.mixed) ∧ w'.cell? ⟨m, 5, none⟩ = some (.int .i64 y.mult) ∧ w'.cell? ⟨m, 6, none⟩ = some (.int .i64 y.round) ∧ w'.cell? ⟨m, 7, none⟩ = some (.int .i64 y.rest) ∧ w'.cell? ⟨n, 13, none⟩ = some (.int .i64 s.a) ∧ w'.cell? ⟨n, 14, none⟩ = some (.int .i64 s.b)
abbrev S11 (n m : Nat) (y : Rk) (s : OpV) (w' : World) : Prop := w'.cell? ⟨m, 0, none⟩ = some (.int .i64 y.floor) ∧ w'.cell? ⟨m, 1, none⟩ = some (.int .i64 y.rtt) ∧ w'.cell? ⟨m, 2, none⟩ = some (.int .i64 y.order) ∧ w'.cell? ⟨m, 3, none⟩ = some (.int .i64 y.fin) ∧ w'.cell? ⟨m, 4, none⟩ = some (.bool y.mixed) ∧ w'.cell? ⟨m, 5, none⟩ = some (.int .i64 y.mult) ∧ w'.cell? ⟨m, 6, none⟩ = some (.int .i64 y.round) ∧ w'.cell? ⟨m, 7, none⟩ = some (.int .i64 y.rest) ∧ w'.cell? ⟨n, 1, none⟩ = some (.int .i64 s.r.f) ∧ w'.cell? ⟨n, 2, none⟩ = some (.int .i64 s.r.t) ∧ w'.cell? ⟨n, 3, none⟩ = some (.int .i64 s.r.sent) ∧ w'.cell? ⟨n, 4, none⟩ = some (.int .i64 s.r.order) ∧ w'.cell? ⟨n, 5, none⟩ = some (.int .i64 s.r.times) ∧ w'.cell? ⟨n, 6, none⟩ = some (.int .i64 s.r.out) ∧ w'.cell? ⟨n, 7, none⟩ = some (.bool s.r.lost) ∧ w'.cell? ⟨n, 8, none⟩ = some (.int .i64 s.now) ∧ w'.cell? ⟨n, 9, none⟩ = some (.int .i64 s.least) ∧ w'.cell? ⟨n, 10, none⟩ = some (.bool s.has) ∧ w'.cell? ⟨n, 11, none⟩ = some (.bool s.echo.1) ∧ w'.cell? ⟨n, 12, none⟩ = some (.int .u32 s.echo.2)
theorem s4_of {W : World} {n m : Nat} {y : Rk} {s : OpV} (h1 : W.heap[m]? = some (rkO y)) (h2 : W.heap[n]? = some (opO s)) : S4 n m y s W := by
  obtain ⟨o0, o1, o2, o3, o4, o5, o6, o7, o8, o9, o10, o11, o12, o13, o14⟩ := op_cs h2
  obtain ⟨r0, r1, r2, r3, r4, r5, r6, r7⟩ := r8 h1
  exact ⟨r0, r1, r2, r3, r4, r5, r6, r7, o13, o14⟩
theorem s11_of {W : World} {n m : Nat} {y : Rk} {s : OpV} (h1 : W.heap[m]? = some (rkO y)) (h2 : W.heap[n]? = some (opO s)) : S11 n m y s W := by
  obtain ⟨o0, o1, o2, o3, o4, o5, o6, o7, o8, o9, o10, o11, o12, o13, o14⟩ := op_cs h2
  obtain ⟨r0, r1, r2, r3, r4, r5, r6, r7⟩ := r8 h1
  exact ⟨r0, r1, r2, r3, r4, r5, r6, r7, o1, o2, o3, o4, o5, o6, o7, o8, o9, o10, o11, o12⟩
def DoesP (w : World) (X : Nat) (x : Rk) (s : OpV) (e : Ending) (w' : World) : Prop := e = .returned (.tuple #[rkV (stp x s), .bool true]) ∧ RkAt w' X (stp x s) ∧ Kept [X] w w'
set_option maxRecDepth 100000 in
set_option maxHeartbeats 4000000 in
theorem does_dup {w : World} {X : Nat} {x : Rk} (h : RkAt w X x) (ho : Ok x) {s : OpV} (hs : OpOk s) (h2 : s.kind % 4 = 2) : Calls Try.prog 11 #[.pointer (some ⟨X, 0, none⟩), rkV x, .agg (opC s)] w (DoesP w X x s) := by
  have hD := d0_new h s
  obtain ⟨⟨k0, k1⟩, hs1, hs2, hs3, hs4, hs5, hv⟩ := hs
  have HV := Lib.hid hv
  have HO := Lib.hid ho
  clear h ho hs1 hs2 hs3 hs4 hs5 hv
  have HD := Lib.hid hD
  obtain ⟨o0, o1, o2, o3, o4, o5, o6, o7, o8, o9, o10, o11, o12, o13, o14⟩ := op_cs hD.op
  obtain ⟨r0, r1, r2, r3, r4, r5, r6, r7⟩ := r8 hD.b0
  clear hD
  unfold DoesP
  have HS : Hid (stp x s = dup x s.a s.b) := Lib.hid (by unfold stp; rw [if_pos h2])
  rw [HS.out]
  clear HS
  generalize hy : dup x s.a s.b = y
  have HY := Lib.hid hy
  clear hy
  go_enter Try.func11, Try.ntmps11
  go_wp2_with (go_at_call 34; (with_reducible refine (rdup_any HO.out _ _ _).mono ?_); rintro e w1 ⟨rfl, q1⟩; rw [HY.out])
  have R := ((HD.out.later q1).alloc y).drew
  clear q1 HD o0 o1 o2 o3 o4 o5 o6 o7 o8 o9 o10 o11 o12 o13 o14 r0 r1 r2 r3 r4 r5 r6 r7
  generalize hm : w1.heap.size = m at *
  generalize w1.alloc (rkO y) = W1 at *
  have P0 := s4_of R.bm R.d.op
  go_region_held3 (fun w' => w'.cell? ⟨m, 0, none⟩ = some (.int .i64 y.floor) ∧ w'.cell? ⟨m, 1, none⟩ = some (.int .i64 y.rtt) ∧ w'.cell? ⟨m, 2, none⟩ = some (.int .i64 y.order) ∧ w'.cell? ⟨m, 3, none⟩ = some (.int .i64 y.fin) ∧ w'.cell? ⟨m, 4, none⟩ = some (.bool y.mixed) ∧ w'.cell? ⟨m, 5, none⟩ = some (.int .i64 y.mult) ∧ w'.cell? ⟨m, 6, none⟩ = some (.int .i64 y.round) ∧ w'.cell? ⟨m, 7, none⟩ = some (.int .i64 y.rest) ∧ w'.cell? ⟨w.heap.size + 1, 13, none⟩ = some (.int .i64 s.a) ∧ w'.cell? ⟨w.heap.size + 1, 14, none⟩ = some (.int .i64 s.b)) (with_reducible first | exact P3 | exact P1 | exact P0 | go_keep)
    ((go_at_call 28; (with_reducible refine (dup_any R.d.rk HO.out _ _).mono ?_); rw [HY.out]; rintro e w2 ⟨rfl, q1, q2⟩; have R1 := R.wrote q1 q2; clear R q1 q2; have HE := R1.end_; have P1 := s4_of R1.bm R1.d.op; have P3 := s4_of R1.put.1 R1.put.2; obtain ⟨r0, r1, r2, r3, r4, r5, r6, r7⟩ := r8 R1.d.rs; have f0 := fofr R1.d.rs 0; have f1 := fofr R1.d.rs 1; have f2 := fofr R1.d.rs 2; have f3 := fofr R1.d.rs 3; have f4 := fofr R1.d.rs 4; have f5 := fofr R1.d.rs 5; have f6 := fofr R1.d.rs 6; have f7 := fofr R1.d.rs 7; have nr : m ≠ w.heap.size + 1 + 1 := (by have := R1.ml; omega); clear P0))
  obtain ⟨y0, y1, y2, y3, y4, y5, y6, y7⟩ := r8 HE.out.1
  have HFIN := Lib.hid HE.out.2
  clear HE R1 P1 P3 r0 r1 r2 r3 r4 r5 r6 r7 f0 f1 f2 f3 f4 f5 f6 f7 nr
  go_wp2_with fail
  exact bodyPost_ret (v := .tuple #[rkV y, .bool true]) (by simp [results, Try.results11, go_sem, y0, y1, y2, y3, y4, y5, y6, y7]) rfl ⟨rfl, HFIN.out.1, HFIN.out.2⟩
end Go.Proofs.Ytfaaamlhkmmamaa.rk
