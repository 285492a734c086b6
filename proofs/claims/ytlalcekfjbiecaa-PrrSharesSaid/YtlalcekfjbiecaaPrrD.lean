/-
  What lies in memory in the law's does (written by gen_does.py with prrd_tail.txt).
-/
import Derived.Test.YtlalcekfjbiecaaPrrK
import Derived.Test.YtlalcekfjbiecaaPrrO
namespace Go.Proofs.Ytlalcekfjbiecaa.pr
open Go.RowKit aid mem
attribute [local go_sem ↓] Go.wp_at_zero Go.wp_at_succ
set_option linter.unusedVariables false
set_option linter.unusedSimpArgs false

abbrev opC (s : OpV) : Array Value := #[.int .u8 (s.kind), .int .i64 (s.a), .int .i64 (s.b)]
abbrev opO (s : OpV) : Obj := .cells (opC s) 36
abbrev Op (b : Nat) (s : OpV) (w' : World) : Prop := w'.cell? ⟨b, 0, none⟩ = some (.int .u8 (s.kind)) ∧ w'.cell? ⟨b, 1, none⟩ = some (.int .i64 (s.a)) ∧ w'.cell? ⟨b, 2, none⟩ = some (.int .i64 (s.b))
theorem op_cs {w : World} {b : Nat} {s : OpV} (h : w.heap[b]? = some (opO s)) : Op b s w := ⟨cofr h 0 _ rfl, cofr h 1 _ rfl, cofr h 2 _ rfl⟩
/-- the three boxes: what the document's was, what is told, what is answered -/
structure D0 (w : World) (X : Nat) (x : Pr) (x0 : Pr) (s : OpV) (W : World) : Prop where
  at_ : PrAt W X x
  b0 : W.heap[w.heap.size]? = some (prO x0)
  op : W.heap[w.heap.size + 1]? = some (opO s)
  rs : W.heap[w.heap.size + 1 + 1]? = some (prO zero)
  xl : X < w.heap.size
  kept : Kept [X] w W
/-- and one more -/
structure D4 (w : World) (X : Nat) (x x0 : Pr) (s : OpV) (m : Nat) (y : Pr) (W : World) : Prop where
  d : D0 w X x x0 s W
  bm : W.heap[m]? = some (prO y)
  ml : w.heap.size + 1 + 1 < m
section
variable {w W W' : World} {X m : Nat} {x x0 x' y : Pr} {s : OpV}
theorem D0.later (h : D0 w X x x0 s W) (hb : Below W.heap.size W W') : D0 w X x x0 s W' :=
  ⟨h.at_.later hb, (hb.block _ (lt_of_block h.b0)).trans h.b0, (hb.block _ (lt_of_block h.op)).trans h.op, (hb.block _ (lt_of_block h.rs)).trans h.rs, h.xl, h.kept.trans (Kept.of_below hb (Nat.le_refl _) []) (by simp)⟩
theorem D0.wrote (h : D0 w X x x0 s W) (hx : PrAt W' X x') (hk : Kept [X] W W') : D0 w X x' x0 s W' := by
  have := h.xl
  exact ⟨hx, hk.heap (by simp; omega) h.b0, hk.heap (by simp; omega) h.op, hk.heap (by simp; omega) h.rs, h.xl, h.kept.trans hk (by simp)⟩
theorem D4.later (h : D4 w X x x0 s m y W) (hb : Below W.heap.size W W') : D4 w X x x0 s m y W' := ⟨h.d.later hb, (hb.block _ (lt_of_block h.bm)).trans h.bm, h.ml⟩
theorem D4.wrote (h : D4 w X x x0 s m y W) (hx : PrAt W' X x') (hk : Kept [X] W W') : D4 w X x' x0 s m y W' := by
  have := h.d.xl
  have := h.ml
  exact ⟨h.d.wrote hx hk, hk.heap (by simp; omega) h.bm, h.ml⟩
theorem D4.drew (h : D4 w X x x0 s m y W) : D4 w X x x0 s m y W.drew := ⟨⟨h.d.at_, h.d.b0, h.d.op, h.d.rs, h.d.xl, h.d.kept.drew⟩, h.bm, h.ml⟩
theorem D0.drew (h : D0 w X x x0 s W) : D0 w X x x0 s W.drew := ⟨h.at_, h.b0, h.op, h.rs, h.xl, h.kept.drew⟩
end
theorem d0_new {w : World} {X : Nat} {x : Pr} (h : PrAt w X x) (x0 : Pr) (s : OpV) : D0 w X x x0 s (((w.alloc (prO x0)).alloc (opO s)).alloc (prO zero)) := by
  have b1 := al w (prO x0)
  have y1 := heap_alloc_new w (prO x0)
  have z1 : (w.alloc (prO x0)).heap.size = w.heap.size + 1 := by simp
  have hX := h.lt
  have h1 := h.later b1
  generalize w.alloc (prO x0) = w1 at *
  have b2 := al w1 (opO s)
  have y2 := heap_alloc_new w1 (opO s)
  have z2 : (w1.alloc (opO s)).heap.size = w.heap.size + 1 + 1 := by simp [z1]
  rw [z1] at y2
  have h2 := h1.later b2
  have y3 := (b2.block _ (lt_of_block y1)).trans y1
  have bb := b1.trans (b2.mono b1.size)
  generalize w1.alloc (opO s) = w2 at *
  have b3 := al w2 (prO zero)
  have y4 := heap_alloc_new w2 (prO zero)
  rw [z2] at y4
  exact ⟨h2.later b3, (b3.block _ (lt_of_block y3)).trans y3, (b3.block _ (lt_of_block y2)).trans y2, y4, hX, Kept.of_below (bb.trans (b3.mono bb.size)) (Nat.le_refl _) _⟩
theorem D0.alloc {w W : World} {X : Nat} {x x0 : Pr} {s : OpV} (h : D0 w X x x0 s W) (y : Pr) : D4 w X x x0 s W.heap.size y (W.alloc (prO y)) :=
  ⟨h.later (al W _), heap_alloc_new _ _, lt_of_block h.rs⟩
/-- the answer's box is written -/
def EndD (w : World) (X : Nat) (x y : Pr) (W : World) : Prop := W.heap[w.heap.size + 1 + 1]? = some (prO y) ∧ PrAt W X x ∧ Kept [X] w W
theorem D0.end_ {w W : World} {X : Nat} {x x0 : Pr} {s : OpV} (h : D0 w X x x0 s W) (y : Pr) : Hid (EndD w X x y (putA (w.heap.size + 1 + 1) y W)) := by
  have kk := putA_kept (w.heap.size + 1 + 1) y W
  have := h.xl
  exact Lib.hid ⟨putA_at h.rs y, h.at_.keep kk (by simp; omega), h.kept.trans kk (fun b hb => .inr (by simp at hb; omega))⟩
theorem D4.put {w W : World} {X m : Nat} {x x0 y : Pr} {s : OpV} (h : D4 w X x x0 s m y W) : (putA (w.heap.size + 1 + 1) y W).heap[m]? = some (prO y) ∧ (putA (w.heap.size + 1 + 1) y W).heap[w.heap.size + 1]? = some (opO s) := by
  have kk := putA_kept (w.heap.size + 1 + 1) y W
  have := h.ml
  exact ⟨kk.heap (by simp; omega) h.bm, kk.heap (by simp) h.d.op⟩
theorem al3 (w : World) (a b c : Obj) : Below w.heap.size w (((w.alloc a).alloc b).alloc c) := (((Below.refl _ _).alloc (Nat.le_refl _) _).alloc (by simp) _).alloc (by simp <;> omega) _
def DoesP (w : World) (X : Nat) (x : Pr) (s : OpV) (e : Ending) (w' : World) : Prop := e = .returned (.tuple #[prV (stp x s.kind s.a s.b), .bool true]) ∧ PrAt w' X (stp x s.kind s.a s.b) ∧ Kept [X] w w'
theorem D0.puts {w W : World} {X : Nat} {x x0 x0' : Pr} {s : OpV} (h : D0 w X x x0 s W) (i : Nat) (u : Value) (hz : (cellsP x0).setIfInBounds i u = cellsP x0') : D0 w X x x0' s (W.setCell ⟨w.heap.size, i, none⟩ u) := by
  have hk := kset W w.heap.size i u
  have := h.xl
  exact ⟨h.at_.keep hk (by simp; omega), setp h.b0 u hz, hk.heap (by simp <;> omega) h.op, hk.heap (by simp <;> omega) h.rs, h.xl, h.kept.trans hk (fun b hb => .inr (by simp at hb; omega))⟩
set_option maxRecDepth 100000 in
set_option maxHeartbeats 4000000 in
theorem does_neg {w : World} {X : Nat} {x : Pr} (h : PrAt w X x) (ho : Ok x) {s : OpV} (hs : OpOk s) (h2 : s.kind % 4 = 2) (h3 : s.a < 0) : Calls Try.prog 12 #[.pointer (some ⟨X, 0, none⟩), prV x, .agg (opC s)] w (DoesP w X x s) := by
  have HD := Lib.hid (d0_new h x s)
  obtain ⟨⟨k0, k1⟩, hs1, hs2⟩ := hs
  have HO := Lib.hid ho
  clear h ho
  obtain ⟨o0, o1, o2⟩ := op_cs HD.out.op
  obtain ⟨r0, r1, r2, r3, r4, r5, r6⟩ := st_of HD.out.b0
  unfold DoesP
  have HS : Hid (stp x s.kind s.a s.b = x ∧ snd x s.a = x ∧ sndE x s.a = 3) := Lib.hid (by unfold stp snd sndE; exact ⟨by rw [if_pos h2]; rw [if_pos h3], by rw [if_pos h3], by rw [if_pos h3]⟩)
  rw [HS.out.1]
  go_enter Try.func12, Try.ntmps12
  go_wp2_with (go_at_call 17; (with_reducible refine (sent_any HD.out.at_ HO.out _).mono ?_); rw [HS.out.2.1, HS.out.2.2]; rintro e w1 ⟨rfl, q1, q2⟩; have RR := HD.out.wrote q1 q2; clear HD q1 q2 o0 o1 o2 r0 r1 r2 r3 r4 r5 r6; obtain ⟨o0, o1, o2⟩ := op_cs RR.op; obtain ⟨r0, r1, r2, r3, r4, r5, r6⟩ := st_of RR.b0; have HE := RR.end_ x; obtain ⟨e0, e1, e2, e3, e4, e5, e6⟩ := st_of RR.rs; have f0 := fofr RR.rs 0; have f1 := fofr RR.rs 1; have f2 := fofr RR.rs 2; have f3 := fofr RR.rs 3; have f4 := fofr RR.rs 4; have f5 := fofr RR.rs 5; have f6 := fofr RR.rs 6)
  obtain ⟨y0, y1, y2, y3, y4, y5, y6⟩ := st_of HE.out.1
  have HFIN := Lib.hid HE.out.2
  exact bodyPost_ret (v := .tuple #[prV x, .bool true]) (by simp [results, Try.results12, go_sem, y0, y1, y2, y3, y4, y5, y6]) rfl ⟨rfl, HFIN.out.1, HFIN.out.2⟩

set_option maxRecDepth 100000 in
set_option maxHeartbeats 4000000 in
theorem does_full {w : World} {X : Nat} {x : Pr} (h : PrAt w X x) (ho : Ok x) {s : OpV} (hs : OpOk s) (h2 : s.kind % 4 = 2) (h3 : ¬ s.a < 0) (h4 : x.left < s.a) : Calls Try.prog 12 #[.pointer (some ⟨X, 0, none⟩), prV x, .agg (opC s)] w (DoesP w X x s) := by
  have HD := Lib.hid (d0_new h x s)
  obtain ⟨⟨k0, k1⟩, hs1, hs2⟩ := hs
  have HO := Lib.hid ho
  clear h ho
  obtain ⟨o0, o1, o2⟩ := op_cs HD.out.op
  obtain ⟨r0, r1, r2, r3, r4, r5, r6⟩ := st_of HD.out.b0
  unfold DoesP
  have HS : Hid (stp x s.kind s.a s.b = x ∧ snd x s.a = x ∧ sndE x s.a = 4) := Lib.hid (by unfold stp snd sndE; exact ⟨by rw [if_pos h2]; rw [if_neg h3, if_pos h4], by rw [if_neg h3, if_pos h4], by rw [if_neg h3, if_pos h4]⟩)
  rw [HS.out.1]
  go_enter Try.func12, Try.ntmps12
  go_wp2_with (go_at_call 17; (with_reducible refine (sent_any HD.out.at_ HO.out _).mono ?_); rw [HS.out.2.1, HS.out.2.2]; rintro e w1 ⟨rfl, q1, q2⟩; have RR := HD.out.wrote q1 q2; clear HD q1 q2 o0 o1 o2 r0 r1 r2 r3 r4 r5 r6; obtain ⟨o0, o1, o2⟩ := op_cs RR.op; obtain ⟨r0, r1, r2, r3, r4, r5, r6⟩ := st_of RR.b0; have HE := RR.end_ x; obtain ⟨e0, e1, e2, e3, e4, e5, e6⟩ := st_of RR.rs; have f0 := fofr RR.rs 0; have f1 := fofr RR.rs 1; have f2 := fofr RR.rs 2; have f3 := fofr RR.rs 3; have f4 := fofr RR.rs 4; have f5 := fofr RR.rs 5; have f6 := fofr RR.rs 6)
  obtain ⟨y0, y1, y2, y3, y4, y5, y6⟩ := st_of HE.out.1
  have HFIN := Lib.hid HE.out.2
  exact bodyPost_ret (v := .tuple #[prV x, .bool true]) (by simp [results, Try.results12, go_sem, y0, y1, y2, y3, y4, y5, y6]) rfl ⟨rfl, HFIN.out.1, HFIN.out.2⟩

set_option maxRecDepth 100000 in
set_option maxHeartbeats 4000000 in
theorem does_sent {w : World} {X : Nat} {x : Pr} (h : PrAt w X x) (ho : Ok x) {s : OpV} (hs : OpOk s) (h2 : s.kind % 4 = 2) (h3 : 0 ≤ s.a) (h4 : s.a ≤ x.left) : Calls Try.prog 12 #[.pointer (some ⟨X, 0, none⟩), prV x, .agg (opC s)] w (DoesP w X x s) := by
  have HD := Lib.hid (d0_new h x s)
  obtain ⟨⟨k0, k1⟩, hs1, hs2⟩ := hs
  have HO := Lib.hid ho
  clear h ho
  obtain ⟨o0, o1, o2⟩ := op_cs HD.out.op
  obtain ⟨r0, r1, r2, r3, r4, r5, r6⟩ := st_of HD.out.b0
  unfold DoesP
  have HS : Hid (stp x s.kind s.a s.b = sent x s.a ∧ snd x s.a = sent x s.a ∧ sndE x s.a = 0) := Lib.hid (by
    have n1 : ¬ s.a < 0 := by omega
    have n2 : ¬ x.left < s.a := by omega
    unfold stp snd sndE; exact ⟨by rw [if_pos h2]; rw [if_neg n1, if_neg n2], by rw [if_neg n1, if_neg n2], by rw [if_neg n1, if_neg n2]⟩)
  rw [HS.out.1]
  have HRS := Lib.hid (fun W => rsent_any (w := W) HO.out h3 h4)
  have HX : Hid (∀ W : World, PrAt W X x → Calls Try.prog 17 #[.pointer (some ⟨X, 0, none⟩), .int .i64 s.a] W (RetP (.int .i64 0) X (sent x s.a) W)) := Lib.hid (fun W hW => by have := sent_any hW HO.out s.a; rw [HS.out.2.1, HS.out.2.2] at this; exact this)
  clear HS
  generalize sent x s.a = y at *
  go_enter Try.func12, Try.ntmps12
  go_wp2_with (first
    | (go_at_call 17; (with_reducible refine (HX.out _ HD.out.at_).mono ?_); rintro e w1 ⟨rfl, q1, q2⟩; have RR := HD.out.wrote q1 q2; clear HD q1 q2 o0 o1 o2 r0 r1 r2 r3 r4 r5 r6; obtain ⟨o0, o1, o2⟩ := op_cs RR.op; obtain ⟨r0, r1, r2, r3, r4, r5, r6⟩ := st_of RR.b0)
    | (go_at_call 21; (with_reducible refine (HRS.out _).mono ?_); rintro e w2 ⟨rfl, q1⟩; replace RR := RR.later q1; clear q1 r0 r1 r2 r3 r4 r5 r6 o0 o1 o2; have HE := RR.end_ y; obtain ⟨r0, r1, r2, r3, r4, r5, r6⟩ := st_of RR.rs; have f0 := fofr RR.rs 0; have f1 := fofr RR.rs 1; have f2 := fofr RR.rs 2; have f3 := fofr RR.rs 3; have f4 := fofr RR.rs 4; have f5 := fofr RR.rs 5; have f6 := fofr RR.rs 6))
  obtain ⟨y0, y1, y2, y3, y4, y5, y6⟩ := st_of HE.out.1
  have HFIN := Lib.hid HE.out.2
  exact bodyPost_ret (v := .tuple #[prV y, .bool true]) (by simp [results, Try.results12, go_sem, y0, y1, y2, y3, y4, y5, y6]) rfl ⟨rfl, HFIN.out.1, HFIN.out.2⟩

set_option maxRecDepth 100000 in
set_option maxHeartbeats 4000000 in
theorem does_first_no {w : World} {X : Nat} {x : Pr} (h : PrAt w X x) (ho : Ok x) {s : OpV} (hs : OpOk s) (h2 : s.kind % 4 = 3) (h3 : x.first = true ∨ 0 < x.out) : Calls Try.prog 12 #[.pointer (some ⟨X, 0, none⟩), prV x, .agg (opC s)] w (DoesP w X x s) := by
  have HD := Lib.hid (d0_new h x s)
  obtain ⟨⟨k0, k1⟩, hs1, hs2⟩ := hs
  have HO := Lib.hid ho
  clear h ho
  obtain ⟨o0, o1, o2⟩ := op_cs HD.out.op
  obtain ⟨r0, r1, r2, r3, r4, r5, r6⟩ := st_of HD.out.b0
  unfold DoesP
  have n2 : ¬ s.kind % 4 = 2 := by omega
  have HS : Hid (stp x s.kind s.a s.b = x ∧ fst x = x ∧ fstE x = 13) := Lib.hid (by
    unfold stp fst fstE
    rw [if_neg n2, if_pos h2]
    rcases h3 with h3 | h3
    · rw [if_pos h3, if_pos h3]; exact ⟨rfl, rfl, rfl⟩
    · split <;> simp [h3])
  rw [HS.out.1]
  have HX : Hid (∀ W : World, PrAt W X x → Calls Try.prog 18 #[.pointer (some ⟨X, 0, none⟩)] W (RetP (.int .i64 13) X x W)) := Lib.hid (fun W hW => by have := first_any hW; rw [HS.out.2.1, HS.out.2.2] at this; exact this)
  clear HS
  have HR3 := Lib.hid h3
  clear h3
  cases hf : x.first with
  | true =>
    rw [hf] at r6
    have HF := Lib.hid hf
    clear hf
    go_enter Try.func12, Try.ntmps12
    go_wp2_with (go_at_call 18; (with_reducible refine (HX.out _ HD.out.at_).mono ?_); rintro e w1 ⟨rfl, q1, q2⟩; have RR := HD.out.wrote q1 q2; clear HD q1 q2 o0 o1 o2 r0 r1 r2 r3 r4 r5 r6; obtain ⟨o0, o1, o2⟩ := op_cs RR.op; obtain ⟨r0, r1, r2, r3, r4, r5, r6⟩ := st_of RR.b0; rw [HF.out] at r6; have HE := RR.end_ x; rw [show putA (w.heap.size + 1 + 1) x w1 = _ from rfl] at HE; unfold putA at HE; rw [HF.out] at HE; obtain ⟨e0, e1, e2, e3, e4, e5, e6⟩ := st_of RR.rs; have f0 := fofr RR.rs 0; have f1 := fofr RR.rs 1; have f2 := fofr RR.rs 2; have f3 := fofr RR.rs 3; have f4 := fofr RR.rs 4; have f5 := fofr RR.rs 5; have f6 := fofr RR.rs 6)
    obtain ⟨y0, y1, y2, y3, y4, y5, y6⟩ := st_of HE.out.1
    have HFIN := Lib.hid HE.out.2
    exact bodyPost_ret (v := .tuple #[prV x, .bool true]) (by simp [results, Try.results12, go_sem, y0, y1, y2, y3, y4, y5, y6]) rfl ⟨rfl, HFIN.out.1, HFIN.out.2⟩
  | false =>
    have h3 : 0 < x.out := by rcases HR3.out with h | h; rw [hf] at h; cases h; exact h
    rw [hf] at r6
    have HF := Lib.hid hf
    clear hf
    go_enter Try.func12, Try.ntmps12
    go_wp2_with (go_at_call 18; (with_reducible refine (HX.out _ HD.out.at_).mono ?_); rintro e w1 ⟨rfl, q1, q2⟩; have RR := HD.out.wrote q1 q2; clear HD q1 q2 o0 o1 o2 r0 r1 r2 r3 r4 r5 r6; obtain ⟨o0, o1, o2⟩ := op_cs RR.op; obtain ⟨r0, r1, r2, r3, r4, r5, r6⟩ := st_of RR.b0; rw [HF.out] at r6; have HE := RR.end_ x; rw [show putA (w.heap.size + 1 + 1) x w1 = _ from rfl] at HE; unfold putA at HE; rw [HF.out] at HE; obtain ⟨e0, e1, e2, e3, e4, e5, e6⟩ := st_of RR.rs; have f0 := fofr RR.rs 0; have f1 := fofr RR.rs 1; have f2 := fofr RR.rs 2; have f3 := fofr RR.rs 3; have f4 := fofr RR.rs 4; have f5 := fofr RR.rs 5; have f6 := fofr RR.rs 6)
    obtain ⟨y0, y1, y2, y3, y4, y5, y6⟩ := st_of HE.out.1
    have HFIN := Lib.hid HE.out.2
    exact bodyPost_ret (v := .tuple #[prV x, .bool true]) (by simp [results, Try.results12, go_sem, y0, y1, y2, y3, y4, y5, y6]) rfl ⟨rfl, HFIN.out.1, HFIN.out.2⟩

set_option maxRecDepth 100000 in
set_option maxHeartbeats 4000000 in
theorem does_first {w : World} {X : Nat} {x : Pr} (h : PrAt w X x) (ho : Ok x) {s : OpV} (hs : OpOk s) (h2 : s.kind % 4 = 3) (h3 : x.first = false) (h4 : ¬ 0 < x.out) : Calls Try.prog 12 #[.pointer (some ⟨X, 0, none⟩), prV x, .agg (opC s)] w (DoesP w X x s) := by
  have HD := Lib.hid (d0_new h x s)
  obtain ⟨⟨k0, k1⟩, hs1, hs2⟩ := hs
  have HO := Lib.hid ho
  clear h ho
  obtain ⟨o0, o1, o2⟩ := op_cs HD.out.op
  obtain ⟨r0, r1, r2, r3, r4, r5, r6⟩ := st_of HD.out.b0
  unfold DoesP
  have n2 : ¬ s.kind % 4 = 2 := by omega
  have HS : Hid (stp x s.kind s.a s.b = ⟨x.mss, x.thresh, x.whole, x.del, x.out, max x.left x.mss, true⟩ ∧ fst x = ⟨x.mss, x.thresh, x.whole, x.del, x.out, max x.left x.mss, true⟩ ∧ fstE x = 0) := Lib.hid (by
    unfold stp fst fstE
    rw [if_neg n2, if_pos h2, h3, if_neg h4]
    simp <;> omega)
  rw [HS.out.1]
  have HX : Hid (∀ W : World, PrAt W X x → Calls Try.prog 18 #[.pointer (some ⟨X, 0, none⟩)] W (RetP (.int .i64 0) X ⟨x.mss, x.thresh, x.whole, x.del, x.out, max x.left x.mss, true⟩ W)) := Lib.hid (fun W hW => by have := first_any hW; rw [HS.out.2.1, HS.out.2.2] at this; exact this)
  clear HS
  rw [h3] at r6
  have HF := Lib.hid h3
  have h5 : x.out ≤ 0 := by omega
  clear h3 h4
  by_cases hm : x.left < x.mss
  · have hmx : max x.left x.mss = x.mss := by omega
    rw [hmx] at HX ⊢
    clear hmx
    go_enter Try.func12, Try.ntmps12
    go_wp2_with (go_at_call 18; (with_reducible refine (HX.out _ HD.out.at_).mono ?_); rintro e w1 ⟨rfl, q1, q2⟩; have RR := HD.out.wrote q1 q2; clear HD q1 q2 o0 o1 o2 r0 r1 r2 r3 r4 r5 r6; obtain ⟨o0, o1, o2⟩ := op_cs RR.op; obtain ⟨r0, r1, r2, r3, r4, r5, r6⟩ := st_of RR.b0; rw [HF.out] at r6; have g5 := fofr RR.b0 5; have g6 := fofr RR.b0 6; have RP := Lib.hid (((RR.puts (x0' := ⟨x.mss, x.thresh, x.whole, x.del, x.out, x.left, true⟩) 6 (.bool true) rfl).puts (x0' := ⟨x.mss, x.thresh, x.whole, x.del, x.out, x.mss, true⟩) 5 (.int .i64 x.mss) rfl)); obtain ⟨e0, e1, e2, e3, e4, e5, e6⟩ := st_of RR.rs; have f0 := fofr RR.rs 0; have f1 := fofr RR.rs 1; have f2 := fofr RR.rs 2; have f3 := fofr RR.rs 3; have f4 := fofr RR.rs 4; have f5 := fofr RR.rs 5; have f6 := fofr RR.rs 6)
    have HE := RP.out.end_ ⟨x.mss, x.thresh, x.whole, x.del, x.out, x.mss, true⟩
    obtain ⟨y0, y1, y2, y3, y4, y5, y6⟩ := st_of HE.out.1
    have HFIN := Lib.hid HE.out.2
    exact bodyPost_ret (v := .tuple #[prV ⟨x.mss, x.thresh, x.whole, x.del, x.out, x.mss, true⟩, .bool true]) (by simp [results, Try.results12, go_sem, y0, y1, y2, y3, y4, y5, y6]) rfl ⟨rfl, HFIN.out.1, HFIN.out.2⟩
  · have hm2 : x.mss ≤ x.left := by omega
    have hmx : max x.left x.mss = x.left := by omega
    clear hm
    rw [hmx] at HX ⊢
    clear hmx
    go_enter Try.func12, Try.ntmps12
    go_wp2_with (go_at_call 18; (with_reducible refine (HX.out _ HD.out.at_).mono ?_); rintro e w1 ⟨rfl, q1, q2⟩; have RR := HD.out.wrote q1 q2; clear HD q1 q2 o0 o1 o2 r0 r1 r2 r3 r4 r5 r6; obtain ⟨o0, o1, o2⟩ := op_cs RR.op; obtain ⟨r0, r1, r2, r3, r4, r5, r6⟩ := st_of RR.b0; rw [HF.out] at r6; have g5 := fofr RR.b0 5; have g6 := fofr RR.b0 6; have RP := Lib.hid (((RR.puts (x0' := ⟨x.mss, x.thresh, x.whole, x.del, x.out, x.left, true⟩) 6 (.bool true) rfl).puts (x0' := ⟨x.mss, x.thresh, x.whole, x.del, x.out, x.left, true⟩) 5 (.int .i64 x.left) rfl)); obtain ⟨e0, e1, e2, e3, e4, e5, e6⟩ := st_of RR.rs; have f0 := fofr RR.rs 0; have f1 := fofr RR.rs 1; have f2 := fofr RR.rs 2; have f3 := fofr RR.rs 3; have f4 := fofr RR.rs 4; have f5 := fofr RR.rs 5; have f6 := fofr RR.rs 6)
    have HE := RP.out.end_ ⟨x.mss, x.thresh, x.whole, x.del, x.out, x.left, true⟩
    obtain ⟨y0, y1, y2, y3, y4, y5, y6⟩ := st_of HE.out.1
    have HFIN := Lib.hid HE.out.2
    exact bodyPost_ret (v := .tuple #[prV ⟨x.mss, x.thresh, x.whole, x.del, x.out, x.left, true⟩, .bool true]) (by simp [results, Try.results12, go_sem, y0, y1, y2, y3, y4, y5, y6]) rfl ⟨rfl, HFIN.out.1, HFIN.out.2⟩

theorem s4_of {W : World} {n m : Nat} {y : Pr} {s : OpV} (h1 : W.heap[m]? = some (prO y)) (h2 : W.heap[n]? = some (opO s)) : W.cell? ⟨m, 0, none⟩ = some (.int .i64 y.mss) ∧ W.cell? ⟨m, 1, none⟩ = some (.int .i64 y.thresh) ∧ W.cell? ⟨m, 2, none⟩ = some (.int .i64 y.whole) ∧ W.cell? ⟨m, 3, none⟩ = some (.int .i64 y.del) ∧ W.cell? ⟨m, 4, none⟩ = some (.int .i64 y.out) ∧ W.cell? ⟨m, 5, none⟩ = some (.int .i64 y.left) ∧ W.cell? ⟨m, 6, none⟩ = some (.bool y.first) ∧ W.cell? ⟨n, 1, none⟩ = some (.int .i64 s.a) ∧ W.cell? ⟨n, 2, none⟩ = some (.int .i64 s.b) := by
  obtain ⟨o0, o1, o2⟩ := op_cs h2
  obtain ⟨r0, r1, r2, r3, r4, r5, r6⟩ := st_of h1
  exact ⟨r0, r1, r2, r3, r4, r5, r6, o1, o2⟩
set_option maxRecDepth 100000 in
set_option maxHeartbeats 4000000 in
theorem does_ack {w : World} {X : Nat} {x : Pr} (h : PrAt w X x) (ho : Ok x) {s : OpV} (hs : OpOk s) (h2 : ¬ s.kind % 4 = 2) (h3 : ¬ s.kind % 4 = 3) : Calls Try.prog 12 #[.pointer (some ⟨X, 0, none⟩), prV x, .agg (opC s)] w (DoesP w X x s) := by
  have HD := Lib.hid (d0_new h x s)
  obtain ⟨⟨k0, k1⟩, hs1, hs2⟩ := hs
  have HO := Lib.hid ho
  clear h ho
  obtain ⟨o0, o1, o2⟩ := op_cs HD.out.op
  obtain ⟨r0, r1, r2, r3, r4, r5, r6⟩ := st_of HD.out.b0
  unfold DoesP
  have HS : Hid (stp x s.kind s.a s.b = ack x s.a s.b) := Lib.hid (by unfold stp; rw [if_neg h2, if_neg h3])
  rw [HS.out]
  clear HS
  generalize hy : ack x s.a s.b = y
  have HY := Lib.hid hy
  clear hy
  have HB := Lib.hid hs2
  go_enter Try.func12, Try.ntmps12
  go_wp2_with (go_at_call 22; (with_reducible refine (rack_any HO.out _ _ HB.out).mono ?_); rw [HY.out]; rintro e w1 ⟨rfl, q1⟩)
  have RR := ((HD.out.later q1).alloc y).drew
  clear q1 HD o0 o1 o2 r0 r1 r2 r3 r4 r5 r6
  generalize hm : w1.heap.size = m at *
  generalize w1.alloc (prO y) = W1 at *
  have P0 := s4_of RR.bm RR.d.op
  go_region_held3 (fun w' => w'.cell? ⟨m, 0, none⟩ = some (.int .i64 y.mss) ∧ w'.cell? ⟨m, 1, none⟩ = some (.int .i64 y.thresh) ∧ w'.cell? ⟨m, 2, none⟩ = some (.int .i64 y.whole) ∧ w'.cell? ⟨m, 3, none⟩ = some (.int .i64 y.del) ∧ w'.cell? ⟨m, 4, none⟩ = some (.int .i64 y.out) ∧ w'.cell? ⟨m, 5, none⟩ = some (.int .i64 y.left) ∧ w'.cell? ⟨m, 6, none⟩ = some (.bool y.first) ∧ w'.cell? ⟨w.heap.size + 1, 1, none⟩ = some (.int .i64 s.a) ∧ w'.cell? ⟨w.heap.size + 1, 2, none⟩ = some (.int .i64 s.b)) (with_reducible first | exact P3 | exact P1 | exact P0 | go_keep)
    ((go_at_call 19; (with_reducible refine (ack_any RR.d.at_ HO.out _ _ HB.out).mono ?_); rw [HY.out]; rintro e w2 ⟨rfl, q1, q2⟩; have R1 := RR.wrote q1 q2; clear RR q1 q2; have HE := R1.d.end_ y; have P1 := s4_of R1.bm R1.d.op; have P3 := s4_of R1.put.1 R1.put.2; obtain ⟨r0, r1, r2, r3, r4, r5, r6⟩ := st_of R1.d.rs; have f0 := fofr R1.d.rs 0; have f1 := fofr R1.d.rs 1; have f2 := fofr R1.d.rs 2; have f3 := fofr R1.d.rs 3; have f4 := fofr R1.d.rs 4; have f5 := fofr R1.d.rs 5; have f6 := fofr R1.d.rs 6; have nr : m ≠ w.heap.size + 1 + 1 := (by have := R1.ml; omega); clear P0))
  obtain ⟨y0, y1, y2, y3, y4, y5, y6⟩ := st_of HE.out.1
  have HFIN := Lib.hid HE.out.2
  clear HE R1 P1 P3 r0 r1 r2 r3 r4 r5 r6 f0 f1 f2 f3 f4 f5 f6 nr
  go_wp2_with fail
  exact bodyPost_ret (v := .tuple #[prV y, .bool true]) (by simp [results, Try.results12, go_sem, y0, y1, y2, y3, y4, y5, y6]) rfl ⟨rfl, HFIN.out.1, HFIN.out.2⟩
theorem does_any {w : World} {X : Nat} {x : Pr} (h : PrAt w X x) (ho : Ok x) {s : OpV} (hs : OpOk s) : Calls Try.prog 12 #[.pointer (some ⟨X, 0, none⟩), prV x, .agg (opC s)] w (DoesP w X x s) := by
  by_cases h2 : s.kind % 4 = 2
  · by_cases h3 : s.a < 0
    · exact does_neg h ho hs h2 h3
    by_cases h4 : x.left < s.a
    · exact does_full h ho hs h2 h3 h4
    exact does_sent h ho hs h2 (by omega) (by omega)
  by_cases h3 : s.kind % 4 = 3
  · cases hf : x.first with
    | true => exact does_first_no h ho hs h3 (.inl hf)
    | false =>
      by_cases h4 : 0 < x.out
      · exact does_first_no h ho hs h3 (.inr h4)
      exact does_first h ho hs h3 hf h4
  exact does_ack h ho hs h2 h3
end Go.Proofs.Ytlalcekfjbiecaa.pr
