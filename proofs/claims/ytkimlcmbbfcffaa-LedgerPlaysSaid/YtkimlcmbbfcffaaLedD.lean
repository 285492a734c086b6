/-
  The law's does: what lies in memory; its ways.
-/
import Derived.Test.YtkimlcmbbfcffaaLedL
namespace Go.Proofs.Ytkimlcmbbfcffaa.lg
open Go.RowKit Go.Shelf aid mem sp rn
attribute [local go_sem ↓] Go.wp_at_zero Go.wp_at_succ
set_option linter.unusedVariables false
set_option linter.unusedSimpArgs false

abbrev opC (s : OpV) : Array Value := #[.int .u8 s.kind, .int .i64 s.a, .int .i64 s.b, .int .i64 s.s.1, .int .i64 s.s.2]
abbrev opO (s : OpV) : Obj := .cells (opC s) 34
abbrev OpAt (b : Nat) (s : OpV) (w' : World) : Prop := w'.cell? ⟨b, 0, none⟩ = some (.int .u8 s.kind) ∧ w'.cell? ⟨b, 1, none⟩ = some (.int .i64 s.a) ∧ w'.cell? ⟨b, 2, none⟩ = some (.int .i64 s.b) ∧ w'.cell? ⟨b, 3, none⟩ = some (.int .i64 s.s.1) ∧ w'.cell? ⟨b, 4, none⟩ = some (.int .i64 s.s.2)
theorem op_cs {w : World} {b : Nat} {s : OpV} (h : w.heap[b]? = some (opO s)) : OpAt b s w := ⟨cofr h 0 _ rfl, cofr h 1 _ rfl, cofr h 2 _ rfl, cofr h 3 _ rfl, cofr h 4 _ rfl⟩
/-- the blocks of a ledger by their types -/
theorem Ow.typ {B : Nat} {x : Ld} {S : List Nat} {w : World} (h : Ow B x S w) {b : Nat} {cs : Array Value} {T : TypeId} (hb : w.heap[b]? = some (.cells cs T (0, 0))) (h1 : T ≠ 50) (h2 : T ≠ 32) : b ∉ B :: S := by
  obtain ⟨a, n, cap, h, rfl⟩ := h
  intro he
  rcases List.mem_cons.1 he with rfl | he
  · rw [h.hdr] at hb; simp at hb; exact h1 hb.2.symm
  · obtain ⟨_, cur, hc⟩ := h.row.lt b he
    rw [hc] at hb; simp at hb; exact h2 hb.2.symm
theorem nt1 : (34 : TypeId) ≠ 50 ∧ (34 : TypeId) ≠ 32 ∧ (28 : TypeId) ≠ 50 ∧ (28 : TypeId) ≠ 32 := by decide
/-- the boxes of does, the ledger, the document's row -/
structure E0 (w : World) (x0 : Ld) (a0 : Option Addr) (n0 cap0 : Nat) (s : OpV) (S0 : List Nat) (B : Nat) (x : Ld) (S : List Nat) (A : List Nat) (y : Ld) (a : Option Addr) (n cap : Nat) (W : World) : Prop where
  ow : Ow B x S W
  b0 : W.heap[w.heap.size]? = some (rO x0 a0 n0 cap0)
  op : W.heap[w.heap.size + 1]? = some (opO s)
  rs : W.heap[w.heap.size + 1 + 1]? = some (rO zL none 0 0)
  row : SlR W 32 2 a n cap (spCells y.l)
  ra : ∀ c ∈ blk a cap, c ∈ A ∨ w.heap.size ≤ c
  rn : ∀ c ∈ blk a cap, c ∉ B :: S
  sb : ∀ b ∈ B :: S0, b < w.heap.size
  ss : ∀ b ∈ S, b ∈ S0 ∨ w.heap.size ≤ b
  kept : Kept (B :: S0) w W
/-- and the box of what the document tells -/
structure E4 (w : World) (x0 : Ld) (a0 : Option Addr) (n0 cap0 : Nat) (s : OpV) (S0 : List Nat) (B : Nat) (x : Ld) (S : List Nat) (A : List Nat) (m : Nat) (y : Ld) (a : Option Addr) (n cap : Nat) (W : World) : Prop where
  e : E0 w x0 a0 n0 cap0 s S0 B x S A y a n cap W
  bm : W.heap[m]? = some (rO y a n cap)
  ml : w.heap.size + 1 + 1 < m
section
variable {w W W' : World} {x0 x x' y y' : Ld} {a0 a a' : Option Addr} {n0 cap0 n cap n' cap' B m : Nat} {s : OpV} {S0 S A : List Nat}
theorem E0.later (h : E0 w x0 a0 n0 cap0 s S0 B x S A y a n cap W) (hb : Below W.heap.size W W') : E0 w x0 a0 n0 cap0 s S0 B x S A y a n cap W' :=
  ⟨h.ow.later hb, (hb.block _ (lt_of_block h.b0)).trans h.b0, (hb.block _ (lt_of_block h.op)).trans h.op, (hb.block _ (lt_of_block h.rs)).trans h.rs, h.row.later hb, h.ra, h.rn, h.sb, h.ss, h.kept.trans (Kept.of_below hb (Nat.le_refl _) []) (by simp)⟩
/-- another row -/
theorem E0.row2 (h : E0 w x0 a0 n0 cap0 s S0 B x S (blk a cap) y a n cap W) (hb : Below W.heap.size W W') (hr : SlR W' 32 2 a' n' cap' (spCells y'.l)) (hc : ∀ c ∈ blk a' cap', c ∈ blk a cap ∨ W.heap.size ≤ c) : E0 w x0 a0 n0 cap0 s S0 B x S (blk a cap) y' a' n' cap' W' := by
  have hl := h.later hb
  refine ⟨hl.ow, hl.b0, hl.op, hl.rs, hr, fun c hc' => (hc c hc').imp id (fun q => Nat.le_trans h.kept.size q), fun c hc' he => ?_, h.sb, h.ss, hl.kept⟩
  rcases hc c hc' with q | q
  · exact h.rn c q he
  · have := h.ow.lt c he; omega
theorem E0.wrote {v : Value} {e : Ending} (h : E0 w x0 a0 n0 cap0 s S0 B x S A y a n cap W) (hr : RetL v B x' S W e W') : e = .returned v ∧ ∃ S', E0 w x0 a0 n0 cap0 s S0 B x' S' A y a n cap W' := by
  obtain ⟨r1, S', r2, r3, r4⟩ := hr
  have t0 := h.ow.typ h.b0 nt1.2.2.1 nt1.2.2.2
  have t1 := h.ow.typ h.op nt1.1 nt1.2.1
  have t2 := h.ow.typ h.rs nt1.2.2.1 nt1.2.2.2
  refine ⟨r1, S', r2, r3.heap t0 h.b0, r3.heap t1 h.op, r3.heap t2 h.rs, h.row.keep r3 h.rn, h.ra, fun c hc he => ?_, h.sb, fun b hb => ?_, h.kept.trans r3 (fun b hb => ?_)⟩
  · rcases List.mem_cons.1 he with rfl | he
    · exact h.rn _ hc (by simp)
    · rcases r4 c he with q | q
      · exact h.rn c hc (by simp [q])
      · have := (h.row.lt c hc).1; omega
  · rcases r4 b hb with q | q
    · exact h.ss b q
    · have := h.kept.size; exact .inr (by omega)
  · rcases List.mem_cons.1 hb with rfl | hb
    · exact .inl (by simp)
    · exact (h.ss b hb).imp (fun q => by simp [q]) id
theorem E4.later (h : E4 w x0 a0 n0 cap0 s S0 B x S A m y a n cap W) (hb : Below W.heap.size W W') : E4 w x0 a0 n0 cap0 s S0 B x S A m y a n cap W' := ⟨h.e.later hb, (hb.block _ (lt_of_block h.bm)).trans h.bm, h.ml⟩
theorem E4.drew (h : E4 w x0 a0 n0 cap0 s S0 B x S A m y a n cap W) : E4 w x0 a0 n0 cap0 s S0 B x S A m y a n cap W.drew := h.later (Below.refl _ _).drew
theorem E4.wrote {v : Value} {e : Ending} (h : E4 w x0 a0 n0 cap0 s S0 B x S A m y a n cap W) (hr : RetL v B x' S W e W') : e = .returned v ∧ ∃ S', E4 w x0 a0 n0 cap0 s S0 B x' S' A m y a n cap W' := by
  obtain ⟨h1, S', h2⟩ := h.e.wrote hr
  obtain ⟨_, _, _, r3, _⟩ := hr
  exact ⟨h1, S', h2, r3.heap (h.e.ow.typ h.bm nt1.2.2.1 nt1.2.2.2) h.bm, h.ml⟩
theorem E0.alloc (h : E0 w x0 a0 n0 cap0 s S0 B x S A y a n cap W) : E4 w x0 a0 n0 cap0 s S0 B x S A W.heap.size y a n cap (W.alloc (rO y a n cap)) := ⟨h.later (bal _), heap_alloc_new _ _, lt_of_block h.rs⟩
/-- the answer's box is written -/
theorem E4.put (h : E4 w x0 a0 n0 cap0 s S0 B x S A m y a n cap W) : (put5 (w.heap.size + 1 + 1) y a n cap W).heap[m]? = some (rO y a n cap) ∧ (put5 (w.heap.size + 1 + 1) y a n cap W).heap[w.heap.size + 1]? = some (opO s) ∧ (put5 (w.heap.size + 1 + 1) y a n cap W).heap[w.heap.size]? = some (rO x0 a0 n0 cap0) := by
  have kk := put5_kept (w.heap.size + 1 + 1) y a n cap W
  have := h.ml
  exact ⟨kk.heap (by simp; omega) h.bm, kk.heap (by simp) h.e.op, kk.heap (by simp; omega) h.e.b0⟩
/-- the end -/
def FinD (w : World) (B : Nat) (S0 A : List Nat) (y : Ld) (a : Option Addr) (n cap : Nat) (W : World) : Prop :=
  (∃ S', Ow B y S' W ∧ (∀ b ∈ S', b ∈ S0 ∨ w.heap.size ≤ b) ∧ ∀ c ∈ blk a cap, c ∉ B :: S') ∧ SlR W 32 2 a n cap (spCells y.l) ∧ Kept (B :: S0) w W ∧ ∀ c ∈ blk a cap, c ∈ A ∨ w.heap.size ≤ c
theorem E4.end_ (h : E4 w x0 a0 n0 cap0 s S0 B y S A m y a n cap W) : (put5 (w.heap.size + 1 + 1) y a n cap W).heap[w.heap.size + 1 + 1]? = some (rO y a n cap) ∧ FinD w B S0 A y a n cap (put5 (w.heap.size + 1 + 1) y a n cap W) := by
  have kk := put5_kept (w.heap.size + 1 + 1) y a n cap W
  have t2 := h.e.ow.typ h.e.rs nt1.2.2.1 nt1.2.2.2
  refine ⟨put5_at h.e.rs y a n cap, ⟨S, h.e.ow.keep kk (fun b hb e => by simp at e; subst e; exact t2 hb), h.e.ss, h.e.rn⟩, h.e.row.keep kk (fun b hb e => ?_), h.e.kept.trans kk (fun b hb => .inr (by simp at hb; omega)), h.e.ra⟩
  simp at e
  subst e
  obtain ⟨_, cur, hc⟩ := h.e.row.lt _ hb
  rw [h.e.rs] at hc
  simp at hc
end
theorem e0_new {w : World} {x : Ld} {B : Nat} {S : List Nat} {a : Option Addr} {n cap : Nat} (h : Ow B x S w) (hr : SlR w 32 2 a n cap (spCells x.l)) (hn : ∀ c ∈ blk a cap, c ∉ B :: S) (s : OpV) :
    E0 w x a n cap s S B x S (blk a cap) x a n cap (((w.alloc (rO x a n cap)).alloc (opO s)).alloc (rO zL none 0 0)) := by
  have b1 := bal (w := w) (rO x a n cap)
  have y1 := heap_alloc_new w (rO x a n cap)
  have z1 : (w.alloc (rO x a n cap)).heap.size = w.heap.size + 1 := by simp
  have h1 := h.later b1
  have hr1 := hr.later b1
  have hlt := h.lt
  generalize w.alloc (rO x a n cap) = w1 at *
  have b2 := bal (w := w1) (opO s)
  have y2 := heap_alloc_new w1 (opO s)
  have z2 : (w1.alloc (opO s)).heap.size = w.heap.size + 1 + 1 := by simp [z1]
  rw [z1] at y2
  have h2 := h1.later b2
  have hr2 := hr1.later b2
  have y3 := (b2.block _ (lt_of_block y1)).trans y1
  have bb := b1.trans (b2.mono b1.size)
  generalize w1.alloc (opO s) = w2 at *
  have b3 := bal (w := w2) (rO zL none 0 0)
  have y4 := heap_alloc_new w2 (rO zL none 0 0)
  rw [z2] at y4
  exact ⟨h2.later b3, (b3.block _ (lt_of_block y3)).trans y3, (b3.block _ (lt_of_block y2)).trans y2, y4, hr2.later b3, fun c hc => .inl hc, hn, hlt, fun b hb => .inl hb, Kept.of_below (bb.trans (b3.mono bb.size)) (Nat.le_refl _) _⟩
def stp (x : Ld) (s : OpV) : Ld := if s.kind % 6 = 0 then cutX x s.a s.b else if s.kind % 6 = 1 ∨ s.kind % 6 = 2 then againX x s.s else if s.kind % 6 = 3 then dupX x s.s else if s.kind % 6 = 4 then undoX x else forceX x
theorem Ok.stp {x : Ld} (h : Ok x) (s : OpV) : Ok (stp x s) := by
  unfold lg.stp
  split
  · exact h.cut _ _
  split
  · exact h.again _
  split
  · exact h.dup _
  split
  · exact h.undo
  · exact h.force
def DoesP (w : World) (B : Nat) (S A : List Nat) (y : Ld) (e : Ending) (w' : World) : Prop := ∃ a n cap, e = .returned (.tuple #[rV y a n cap, .bool true]) ∧ FinD w B S A y a n cap w'
/-- cells that are read -/
abbrev S7 (N m : Nat) (y : Ld) (a : Option Addr) (n cap : Nat) (s : OpV) (W : World) : Prop := W.cell? ⟨m, 0, none⟩ = some (.bool y.op) ∧ W.cell? ⟨m, 1, none⟩ = some (.int .i64 y.cw) ∧ W.cell? ⟨m, 2, none⟩ = some (.int .i64 y.th) ∧ W.cell? ⟨m, 3, none⟩ = some (.slice a n cap) ∧ W.cell? ⟨m, 4, none⟩ = some (.bool y.sp) ∧ W.cell? ⟨N, 1, none⟩ = some (.int .i64 s.a) ∧ W.cell? ⟨N, 2, none⟩ = some (.int .i64 s.b) ∧ W.cell? ⟨N, 3, none⟩ = some (.int .i64 s.s.1) ∧ W.cell? ⟨N, 4, none⟩ = some (.int .i64 s.s.2)
theorem s7_of {N m : Nat} {y : Ld} {a : Option Addr} {n cap : Nat} {s : OpV} {W : World} (h1 : W.heap[m]? = some (rO y a n cap)) (h2 : W.heap[N]? = some (opO s)) : S7 N m y a n cap s W := by
  obtain ⟨r0, r1, r2, r3, r4⟩ := st_of h1
  obtain ⟨o0, o1, o2, o3, o4⟩ := op_cs h2
  exact ⟨r0, r1, r2, r3, r4, o1, o2, o3, o4⟩
set_option maxRecDepth 100000 in
set_option maxHeartbeats 4000000 in
theorem does_cut {w : World} {B : Nat} {x : Ld} {S : List Nat} {a : Option Addr} {n cap : Nat} (h : Ow B x S w) (ho : Ok x) (hr : SlR w 32 2 a n cap (spCells x.l)) (hn : ∀ c ∈ blk a cap, c ∉ B :: S) {s : OpV} (hs : OpOk s) (hk : s.kind % 6 = 0) :
    Calls Try.prog 10 #[.pointer (some ⟨B, 0, none⟩), rV x a n cap, .agg (opC s)] w (DoesP w B S (blk a cap) (stp x s)) := by
  have HD := Lib.hid (e0_new h hr hn s)
  obtain ⟨⟨k0, k1⟩, _⟩ := hs
  have HS : Hid (stp x s = cutX x s.a s.b) := Lib.hid (by unfold stp; rw [if_pos hk])
  rw [HS.out]
  have HLY : Hid (x.l = (cutX x s.a s.b).l) := Lib.hid (by unfold cutX; split <;> rfl)
  have HRC := Lib.hid (fun W => rcut_any x a n cap s.a s.b W)
  have HPC := Lib.hid (fun W (q : Ow B x S W) => cut_any q s.a s.b)
  generalize cutX x s.a s.b = y at *
  obtain ⟨o0, o1, o2, o3, o4⟩ := op_cs HD.out.op
  obtain ⟨r0, r1, r2, r3, r4⟩ := st_of HD.out.b0
  clear h hr hn ho HS
  go_enter Try.func10, Try.ntmps10
  go_wp2_with (go_at_call 21; go_must (with_reducible refine (HRC.out _).mono ?_); rintro e w1 ⟨rfl, q1⟩)
  have RR := ((HD.out.row2 (y' := y) q1 (by rw [← HLY.out]; exact (HD.out.later q1).row) (fun c hc => .inl hc)).alloc).drew
  clear q1 HD o0 o1 o2 o3 o4 r0 r1 r2 r3 r4
  generalize hm : w1.heap.size = m at *
  generalize w1.alloc (rO y a n cap) = W1 at *
  have P0 := s7_of RR.bm RR.e.op
  go_region_held3 (fun W => S7 (w.heap.size + 1) m y a n cap s W) (first | with_reducible exact P3 | with_reducible exact P1 | with_reducible exact P0 | go_keep)
    ((go_at_call 16; (with_reducible refine (HPC.out _ RR.e.ow).mono ?_); intro e w2 q; obtain ⟨rfl, S', R1⟩ := RR.wrote q; clear RR q; have HE := Lib.hid R1.end_; have P1 := s7_of R1.bm R1.e.op; have P3 := s7_of R1.put.1 R1.put.2.1; obtain ⟨z0, z1, z2, z3, z4⟩ := st_of R1.e.rs; obtain ⟨f0, f1, f2, f3, f4⟩ := fz_of R1.e.rs))
  obtain ⟨y0, y1, y2, y3, y4⟩ := st_of HE.out.1
  clear P1 P3 z0 z1 z2 z3 z4 f0 f1 f2 f3 f4 P0 R1
  go_wp2_with fail
  exact bodyPost_ret (v := .tuple #[rV y a n cap, .bool true]) (by simp [results, Try.results10, go_sem, y0, y1, y2, y3, y4]) rfl ⟨a, n, cap, rfl, HE.out.2⟩
end Go.Proofs.Ytkimlcmbbfcffaa.lg
