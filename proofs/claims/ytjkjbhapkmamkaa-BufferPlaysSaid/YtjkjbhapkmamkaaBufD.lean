/-
  The law's does and equal.
-/
import Derived.Test.YtjkjbhapkmamkaaBufK
import Derived.Test.YtjkjbhapkmamkaaBufO
namespace Go.Proofs.Ytjkjbhapkmamkaa.bf
open Go.RowKit aid mem sp
attribute [local go_sem ↓] Go.wp_at_zero Go.wp_at_succ
set_option linter.unusedVariables false
set_option linter.unusedSimpArgs false

abbrev opC (s : OpV) : Array Value := #[.int .u8 s.kind, .slice s.b.1 s.b.2.1 s.b.2.2.1, .int .i64 s.t, .int .i64 s.s.1, .int .i64 s.s.2]
abbrev opO (s : OpV) : Obj := .cells (opC s) 27
abbrev OpAt (b : Nat) (s : OpV) (w' : World) : Prop := w'.cell? ⟨b, 0, none⟩ = some (.int .u8 s.kind) ∧ w'.cell? ⟨b, 1, none⟩ = some (.slice s.b.1 s.b.2.1 s.b.2.2.1) ∧ w'.cell? ⟨b, 2, none⟩ = some (.int .i64 s.t) ∧ w'.cell? ⟨b, 3, none⟩ = some (.int .i64 s.s.1) ∧ w'.cell? ⟨b, 4, none⟩ = some (.int .i64 s.s.2)
theorem op_cs {w : World} {b : Nat} {s : OpV} (h : w.heap[b]? = some (opO s)) : OpAt b s w := ⟨cofr h 0 _ rfl, cofr h 1 _ rfl, cofr h 2 _ rfl, cofr h 3 _ rfl, cofr h 4 _ rfl⟩
theorem nt1 : (27 : TypeId) ≠ 50 ∧ (27 : TypeId) ≠ 5 := by decide
/-- the boxes of does, the buffer, the document's row -/
structure E0 (w : World) (x0 : Bf) (a0 : Option Addr) (n0 cap0 : Nat) (s : OpV) (B : Nat) (g : Rg) (x : Bf) (A : List Nat) (y : Bf) (a : Option Addr) (n cap : Nat) (W : World) : Prop where
  bf : BfAt W B g x
  b0 : W.heap[w.heap.size]? = some (rO x0 a0 n0 cap0)
  op : W.heap[w.heap.size + 1]? = some (opO s)
  rs : W.heap[w.heap.size + 1 + 1]? = some (rO zB none 0 0)
  row : RRow W a n cap y.l
  ra : ∀ c ∈ blk a cap, c ∈ A ∨ w.heap.size ≤ c
  rn : ∀ c ∈ blk a cap, c ∉ [B, g.b]
  lt : ∀ b ∈ [B, g.b], b < w.heap.size
  kept : Kept [B, g.b] w W
/-- and the box of what the document tells -/
structure E4 (w : World) (x0 : Bf) (a0 : Option Addr) (n0 cap0 : Nat) (s : OpV) (B : Nat) (g : Rg) (x : Bf) (A : List Nat) (m : Nat) (y : Bf) (a : Option Addr) (n cap : Nat) (W : World) : Prop where
  e : E0 w x0 a0 n0 cap0 s B g x A y a n cap W
  bm : W.heap[m]? = some (rO y a n cap)
  ml : w.heap.size + 1 + 1 < m
section
variable {w W W' : World} {x0 x x' y y' : Bf} {a0 a a' : Option Addr} {n0 cap0 n cap n' cap' B m : Nat} {g : Rg} {s : OpV} {A : List Nat}
theorem E0.later (h : E0 w x0 a0 n0 cap0 s B g x A y a n cap W) (hb : Below W.heap.size W W') : E0 w x0 a0 n0 cap0 s B g x A y a n cap W' :=
  ⟨h.bf.later hb, (hb.block _ (lt_of_block h.b0)).trans h.b0, (hb.block _ (lt_of_block h.op)).trans h.op, (hb.block _ (lt_of_block h.rs)).trans h.rs, h.row.later hb, h.ra, h.rn, h.lt, h.kept.trans (Kept.of_below hb (Nat.le_refl _) []) (by simp)⟩
/-- another row -/
theorem E0.row2 (h : E0 w x0 a0 n0 cap0 s B g x (blk a cap) y a n cap W) (hb : Below W.heap.size W W') (hr : RRow W' a' n' cap' y'.l) (hc : ∀ c ∈ blk a' cap', c ∈ blk a cap ∨ W.heap.size ≤ c) : E0 w x0 a0 n0 cap0 s B g x (blk a cap) y' a' n' cap' W' := by
  have hl := h.later hb
  refine ⟨hl.bf, hl.b0, hl.op, hl.rs, hr, fun c hc' => (hc c hc').imp id (fun q => Nat.le_trans h.kept.size q), fun c hc' he => ?_, h.lt, hl.kept⟩
  rcases hc c hc' with q | q
  · exact h.rn c q he
  · have := h.bf.lt c he; omega
theorem E0.wrote {v : Value} {e : Ending} (h : E0 w x0 a0 n0 cap0 s B g x A y a n cap W) (hr : RetW v B g x' W e W') : e = .returned v ∧ E0 w x0 a0 n0 cap0 s B g x' A y a n cap W' := by
  obtain ⟨r1, r2, r3⟩ := hr
  exact ⟨r1, r2, r3.heap (h.bf.typ h.b0 nt.2 nt.1) h.b0, r3.heap (h.bf.typ h.op nt1.1 nt1.2) h.op, r3.heap (h.bf.typ h.rs nt.2 nt.1) h.rs, h.row.keep r3 h.rn, h.ra, h.rn, h.lt, h.kept.trans r3 (fun b hb => .inl hb)⟩
theorem E4.later (h : E4 w x0 a0 n0 cap0 s B g x A m y a n cap W) (hb : Below W.heap.size W W') : E4 w x0 a0 n0 cap0 s B g x A m y a n cap W' := ⟨h.e.later hb, (hb.block _ (lt_of_block h.bm)).trans h.bm, h.ml⟩
theorem E4.drew (h : E4 w x0 a0 n0 cap0 s B g x A m y a n cap W) : E4 w x0 a0 n0 cap0 s B g x A m y a n cap W.drew := h.later (Below.refl _ _).drew
theorem E4.wrote {v : Value} {e : Ending} (h : E4 w x0 a0 n0 cap0 s B g x A m y a n cap W) (hr : RetW v B g x' W e W') : e = .returned v ∧ E4 w x0 a0 n0 cap0 s B g x' A m y a n cap W' := by
  obtain ⟨h1, h2⟩ := h.e.wrote hr
  exact ⟨h1, h2, hr.2.2.heap (h.e.bf.typ h.bm nt.2 nt.1) h.bm, h.ml⟩
theorem E0.alloc (h : E0 w x0 a0 n0 cap0 s B g x A y a n cap W) : E4 w x0 a0 n0 cap0 s B g x A W.heap.size y a n cap (W.alloc (rO y a n cap)) := ⟨h.later (bal _), heap_alloc_new _ _, lt_of_block h.rs⟩
/-- the answer's box is written -/
theorem E4.put (h : E4 w x0 a0 n0 cap0 s B g x A m y a n cap W) : (put3 (w.heap.size + 1 + 1) y a n cap W).heap[m]? = some (rO y a n cap) ∧ (put3 (w.heap.size + 1 + 1) y a n cap W).heap[w.heap.size + 1]? = some (opO s) := by
  have kk := put3_kept (w.heap.size + 1 + 1) y a n cap W
  have := h.ml
  exact ⟨kk.heap (by simp; omega) h.bm, kk.heap (by simp) h.e.op⟩
/-- the end -/
def FinD (w : World) (B : Nat) (g : Rg) (A : List Nat) (y : Bf) (a : Option Addr) (n cap : Nat) (W : World) : Prop :=
  BfAt W B g y ∧ RRow W a n cap y.l ∧ (∀ c ∈ blk a cap, c ∉ [B, g.b]) ∧ Kept [B, g.b] w W ∧ ∀ c ∈ blk a cap, c ∈ A ∨ w.heap.size ≤ c
theorem E0.end_ (h : E0 w x0 a0 n0 cap0 s B g y A y a n cap W) : (put3 (w.heap.size + 1 + 1) y a n cap W).heap[w.heap.size + 1 + 1]? = some (rO y a n cap) ∧ FinD w B g A y a n cap (put3 (w.heap.size + 1 + 1) y a n cap W) := by
  have kk := put3_kept (w.heap.size + 1 + 1) y a n cap W
  have t2 := h.bf.typ h.rs nt.2 nt.1
  refine ⟨put3_at h.rs y a n cap, h.bf.keep kk (fun b hb e => by simp at e; subst e; exact t2 hb), h.row.keep kk (fun b hb e => ?_), h.rn, h.kept.trans kk (fun b hb => .inr (by simp at hb; omega)), h.ra⟩
  simp at e
  subst e
  exact rrow_typ h.row h.rs nt.1 hb
end
theorem e0_new {w : World} {x : Bf} {B : Nat} {g : Rg} {a : Option Addr} {n cap : Nat} (h : BfAt w B g x) (hr : RRow w a n cap x.l) (hn : ∀ c ∈ blk a cap, c ∉ [B, g.b]) (s : OpV) :
    E0 w x a n cap s B g x (blk a cap) x a n cap (((w.alloc (rO x a n cap)).alloc (opO s)).alloc zO) := by
  have b1 := bal (w := w) (rO x a n cap)
  have y1 := heap_alloc_new w (rO x a n cap)
  have z1 : (w.alloc (rO x a n cap)).heap.size = w.heap.size + 1 := by simp
  have h1 := h.later b1
  have hr1 := hr.later b1
  have hlt := h.lt
  generalize w.alloc (rO x a n cap) = w1 at *
  have b2 := bal (w := w1) (opO s)
  have y2 := heap_alloc_new w1 (opO s)
  have z2 : (w1.alloc (opO s)).heap.size = w.heap.size + 1 + 1 := by simp [z1]
  rw [z1] at y2
  have h2 := h1.later b2
  have hr2 := hr1.later b2
  have y3 := (b2.block _ (lt_of_block y1)).trans y1
  have bb := b1.trans (b2.mono b1.size)
  generalize w1.alloc (opO s) = w2 at *
  have b3 := bal (w := w2) zO
  have y4 := heap_alloc_new w2 zO
  rw [z2] at y4
  exact ⟨h2.later b3, (b3.block _ (lt_of_block y3)).trans y3, (b3.block _ (lt_of_block y2)).trans y2, y4, hr2.later b3, fun c hc => .inl hc, hn, hlt, Kept.of_below (bb.trans (b3.mono bb.size)) (Nat.le_refl _) _⟩
def stp (x : Bf) (s : OpV) : Bf := if s.kind % 3 = 0 then wrX x s.b.2.2.2 else if s.kind % 3 = 1 then frX x s.t else x
theorem Ok.stp {x : Bf} (h : Ok x) (s : OpV) : Ok (stp x s) := by
  unfold bf.stp
  split
  · exact h.wr _
  split
  · exact h.fr _
  · exact h
def DoesP (w : World) (B : Nat) (g : Rg) (A : List Nat) (y : Bf) (e : Ending) (w' : World) : Prop := ∃ a n cap, e = .returned (.tuple #[rV y a n cap, .bool true]) ∧ FinD w B g A y a n cap w'
/-- cells that are read -/
abbrev S7 (N m : Nat) (y : Bf) (a : Option Addr) (n cap : Nat) (s : OpV) (W : World) : Prop := W.cell? ⟨m, 0, none⟩ = some (.int .i64 (y.una : Int)) ∧ W.cell? ⟨m, 1, none⟩ = some (.int .i64 (y.most : Int)) ∧ W.cell? ⟨m, 2, none⟩ = some (.slice a n cap) ∧ W.cell? ⟨N, 1, none⟩ = some (.slice s.b.1 s.b.2.1 s.b.2.2.1) ∧ W.cell? ⟨N, 2, none⟩ = some (.int .i64 s.t) ∧ W.cell? ⟨N, 3, none⟩ = some (.int .i64 s.s.1) ∧ W.cell? ⟨N, 4, none⟩ = some (.int .i64 s.s.2)
theorem s7_of {N m : Nat} {y : Bf} {a : Option Addr} {n cap : Nat} {s : OpV} {W : World} (h1 : W.heap[m]? = some (rO y a n cap)) (h2 : W.heap[N]? = some (opO s)) : S7 N m y a n cap s W := by
  obtain ⟨r0, r1, r2⟩ := st_of h1
  obtain ⟨o0, o1, o2, o3, o4⟩ := op_cs h2
  exact ⟨r0, r1, r2, o1, o2, o3, o4⟩
/-- an operation's bytes, apart from the buffer -/
def OpA2 (w : World) (B : Nat) (g : Rg) (s : OpV) : Prop := SlA .u8 w s.b.1 s.b.2.1 s.b.2.2.1 s.b.2.2.2 ∧ ∀ y, s.b.1 = some y → 0 < s.b.2.1 → y.block ∉ [B, g.b]
set_option maxRecDepth 100000 in
set_option maxHeartbeats 4000000 in
theorem does_write {w : World} {B : Nat} {g : Rg} {x : Bf} {a : Option Addr} {n cap : Nat} (h : BfAt w B g x) (hr : RRow w a n cap x.l) (hn : ∀ c ∈ blk a cap, c ∉ [B, g.b]) {s : OpV} (hk0 : 0 ≤ s.kind ∧ s.kind ≤ 255) (hp : OpA2 w B g s) (hk : s.kind % 3 = 0) :
    Calls Try.prog 8 #[.pointer (some ⟨B, 0, none⟩), rV x a n cap, .agg (opC s)] w (DoesP w B g (blk a cap) (stp x s)) := by
  have HD := Lib.hid (e0_new h hr hn s)
  obtain ⟨k0, k1⟩ := hk0
  have HS : Hid (stp x s = wrX x s.b.2.2.2) := Lib.hid (by unfold stp; rw [if_pos hk])
  rw [HS.out]
  have HO := Lib.hid h.ok
  have HP := Lib.hid hp.1
  have HPD := Lib.hid hp.2
  have HRC := Lib.hid (fun W (q : RRow W a n cap x.l) (q2 : SlA .u8 W s.b.1 s.b.2.1 s.b.2.2.1 s.b.2.2.2) => rwrite_any q HO.out q2)
  have HPC := Lib.hid (fun W (q : BfAt W B g x) (q2 : SlA .u8 W s.b.1 s.b.2.1 s.b.2.2.1 s.b.2.2.2) => write_any q q2 HPD.out)
  have HB0 := Lib.hid (fun W (hb : Below w.heap.size w W) => HP.out.later hb)
  have HZ := Lib.hid (bal3 (w := w) (rO x a n cap) (opO s) zO)
  clear h hr hn HS hp HPD
  unfold RetA at HRC
  generalize wrX x s.b.2.2.2 = y at *
  generalize wrE x s.b.2.1 = ev at *
  obtain ⟨o0, o1, o2, o3, o4⟩ := op_cs HD.out.op
  obtain ⟨r0, r1, r2⟩ := st_of HD.out.b0
  go_enter Try.func8, Try.ntmps8
  go_wp2_with (go_at_call 18; go_must (with_reducible refine (HRC.out _ HD.out.row (HB0.out _ HZ.out)).mono ?_); rintro e w1 ⟨a', n', cap', rfl, q2, q1, q3⟩)
  have RR := ((HD.out.row2 (y' := y) q1 q2 (fun c hc => q3 c hc)).alloc).drew
  have HQ := Lib.hid (HB0.out _ (HZ.out.trans (q1.mono HZ.out.size)))
  clear q1 q2 q3 HD o0 o1 o2 o3 o4 r0 r1 r2
  have HQ2 := Lib.hid ((HQ.out.later (bal (rO y a' n' cap'))).drew)
  generalize hm : w1.heap.size = m at *
  generalize w1.alloc (rO y a' n' cap') = W1 at *
  have P0 := s7_of RR.bm RR.e.op
  go_region_held3 (fun W => S7 (w.heap.size + 1) m y a' n' cap' s W) (first | with_reducible exact P3 | with_reducible exact P1 | with_reducible exact P0 | go_keep)
    ((go_at_call 11; (with_reducible refine (HPC.out _ RR.e.bf HQ2.out).mono ?_); intro e w2 q; obtain ⟨rfl, R1⟩ := RR.wrote q; clear RR q; have HE := Lib.hid R1.e.end_; have P1 := s7_of R1.bm R1.e.op; have P3 := s7_of R1.put.1 R1.put.2; obtain ⟨z0, z1, z2⟩ := st_of R1.e.rs; obtain ⟨f0, f1, f2⟩ := fz_of R1.e.rs))
  obtain ⟨y0, y1, y2⟩ := st_of HE.out.1
  clear P1 P3 z0 z1 z2 f0 f1 f2 P0 R1
  go_wp2_with fail
  exact bodyPost_ret (v := .tuple #[rV y a' n' cap', .bool true]) (by simp [results, Try.results8, go_sem, y0, y1, y2]) rfl ⟨a', n', cap', rfl, HE.out.2⟩
set_option maxRecDepth 100000 in
set_option maxHeartbeats 4000000 in
theorem does_free {w : World} {B : Nat} {g : Rg} {x : Bf} {a : Option Addr} {n cap : Nat} (h : BfAt w B g x) (hr : RRow w a n cap x.l) (hn : ∀ c ∈ blk a cap, c ∉ [B, g.b]) {s : OpV} (hk0 : 0 ≤ s.kind ∧ s.kind ≤ 255) (ht : -9223372036854775808 ≤ s.t ∧ s.t ≤ 9223372036854775807) (hk : s.kind % 3 = 1) :
    Calls Try.prog 8 #[.pointer (some ⟨B, 0, none⟩), rV x a n cap, .agg (opC s)] w (DoesP w B g (blk a cap) (stp x s)) := by
  have HD := Lib.hid (e0_new h hr hn s)
  obtain ⟨k0, k1⟩ := hk0
  have HS : Hid (stp x s = frX x s.t) := Lib.hid (by unfold stp; rw [if_neg (by omega), if_pos hk])
  rw [HS.out]
  have HO := Lib.hid h.ok
  have HRC := Lib.hid (fun W (q : RRow W a n cap x.l) => rfree_any q HO.out s.t ht)
  have HPC := Lib.hid (fun W (q : BfAt W B g x) => free_any q s.t)
  clear h hr hn HS ht
  unfold RetA at HRC
  generalize frX x s.t = y at *
  generalize frE x s.t = ev at *
  obtain ⟨o0, o1, o2, o3, o4⟩ := op_cs HD.out.op
  obtain ⟨r0, r1, r2⟩ := st_of HD.out.b0
  go_enter Try.func8, Try.ntmps8
  go_wp2_with (go_at_call 19; go_must (with_reducible refine (HRC.out _ HD.out.row).mono ?_); rintro e w1 ⟨a', n', cap', rfl, q2, q1, q3⟩)
  have RR := ((HD.out.row2 (y' := y) q1 q2 (fun c hc => q3 c hc)).alloc).drew
  clear q1 q2 q3 HD o0 o1 o2 o3 o4 r0 r1 r2
  generalize hm : w1.heap.size = m at *
  generalize w1.alloc (rO y a' n' cap') = W1 at *
  have P0 := s7_of RR.bm RR.e.op
  go_region_held3 (fun W => S7 (w.heap.size + 1) m y a' n' cap' s W) (first | with_reducible exact P3 | with_reducible exact P1 | with_reducible exact P0 | go_keep)
    ((go_at_call 12; (with_reducible refine (HPC.out _ RR.e.bf).mono ?_); intro e w2 q; obtain ⟨rfl, R1⟩ := RR.wrote q; clear RR q; have HE := Lib.hid R1.e.end_; have P1 := s7_of R1.bm R1.e.op; have P3 := s7_of R1.put.1 R1.put.2; obtain ⟨z0, z1, z2⟩ := st_of R1.e.rs; obtain ⟨f0, f1, f2⟩ := fz_of R1.e.rs))
  obtain ⟨y0, y1, y2⟩ := st_of HE.out.1
  clear P1 P3 z0 z1 z2 f0 f1 f2 P0 R1
  go_wp2_with fail
  exact bodyPost_ret (v := .tuple #[rV y a' n' cap', .bool true]) (by simp [results, Try.results8, go_sem, y0, y1, y2]) rfl ⟨a', n', cap', rfl, HE.out.2⟩
/-- cells that are read, the document's box at N -/
theorem E0.drew {w W : World} {x0 x y : Bf} {a0 a : Option Addr} {n0 cap0 n cap B : Nat} {g : Rg} {s : OpV} {A : List Nat} (h : E0 w x0 a0 n0 cap0 s B g x A y a n cap W) : E0 w x0 a0 n0 cap0 s B g x A y a n cap W.drew := h.later (Below.refl _ _).drew
set_option maxRecDepth 100000 in
set_option maxHeartbeats 4000000 in
theorem does_read {w : World} {B : Nat} {g : Rg} {x : Bf} {a : Option Addr} {n cap : Nat} (h : BfAt w B g x) (hr : RRow w a n cap x.l) (hn : ∀ c ∈ blk a cap, c ∉ [B, g.b]) {s : OpV} (hk0 : 0 ≤ s.kind ∧ s.kind ≤ 255) (hk : s.kind % 3 = 2) :
    Calls Try.prog 8 #[.pointer (some ⟨B, 0, none⟩), rV x a n cap, .agg (opC s)] w (DoesP w B g (blk a cap) (stp x s)) := by
  have HD := Lib.hid (e0_new h hr hn s)
  obtain ⟨k0, k1⟩ := hk0
  have HS : Hid (stp x s = x) := Lib.hid (by unfold stp; rw [if_neg (by omega), if_neg (by omega)])
  rw [HS.out]
  have HO := Lib.hid h.ok
  have HRC := Lib.hid (fun W (q : RRow W a n cap x.l) => rread_any q HO.out s.s)
  have HPC := Lib.hid (fun W (q : BfAt W B g x) => read_any q s.s)
  clear h hr hn HS
  unfold RetD at HRC
  unfold RetR at HPC
  have HSM := Lib.hid (fun W a1 n1 c1 a2 n2 c2 (q1 : RRow W a1 n1 c1 (rdL x s.s)) (q2 : RRow W a2 n2 c2 (rdL x s.s)) => (same_b q1 q2).below)
  generalize rdL x s.s = l at *
  generalize rdE x s.s = ev at *
  obtain ⟨o0, o1, o2, o3, o4⟩ := op_cs HD.out.op
  obtain ⟨r0, r1, r2⟩ := st_of HD.out.b0
  go_enter Try.func8, Try.ntmps8
  go_upto_region 10 with (first
    | (go_at_call 20; (with_reducible refine (HRC.out _ HD.out.row).mono ?_); rintro e w1 ⟨a1, n1, c1, rfl, q1, q2, _⟩; have HD1 := Lib.hid (HD.out.later q2); have HQ1 := Lib.hid q1; clear HD q1 q2 o0 o1 o2 o3 o4 r0 r1 r2; obtain ⟨o0, o1, o2, o3, o4⟩ := op_cs HD1.out.op)
    | (go_at_call 13; (with_reducible refine (HPC.out _ HD1.out.bf).mono ?_); rintro e w2 ⟨a2, n2, c2, rfl, q1, q2, _⟩; have HD2 := Lib.hid (HD1.out.later q2); have HQ2 := Lib.hid q1; have HQ1' := Lib.hid (HQ1.out.later q2); clear HD1 HQ1 q1 q2 o0 o1 o2 o3 o4))
  have RR := HD2.out.drew
  have HX1 := Lib.hid (show RRow w2.drew a1 n1 c1 l from HQ1'.out.later (Below.refl _ _).drew)
  have HX2 := Lib.hid (show RRow w2.drew a2 n2 c2 l from HQ2.out.later (Below.refl _ _).drew)
  clear HD2 HQ1' HQ2
  have P0 := st_of RR.b0
  go_region_held3 (fun W => St w.heap.size x a n cap W) (first | with_reducible exact P3 | with_reducible exact P1 | with_reducible exact P0 | go_keep)
    ((go_at_call 14; (with_reducible refine (HSM.out _ a1 n1 c1 a2 n2 c2 HX1.out HX2.out).mono ?_); rintro e w3 ⟨rfl, hb⟩; have R1 := RR.later hb; clear RR hb; have HE := Lib.hid R1.end_; have P1 := st_of R1.b0; have P3 := st_of ((put3_kept (w.heap.size + 1 + 1) x a n cap w3).heap (by simp; omega) R1.b0); obtain ⟨z0, z1, z2⟩ := st_of R1.rs; obtain ⟨f0, f1, f2⟩ := fz_of R1.rs))
  obtain ⟨y0, y1, y2⟩ := st_of HE.out.1
  clear P1 P3 z0 z1 z2 f0 f1 f2 P0 R1
  go_wp2_with fail
  exact bodyPost_ret (v := .tuple #[rV x a n cap, .bool true]) (by simp [results, Try.results8, go_sem, y0, y1, y2]) rfl ⟨a, n, cap, rfl, HE.out.2⟩
theorem does_any {w : World} {B : Nat} {g : Rg} {x : Bf} {a : Option Addr} {n cap : Nat} (h : BfAt w B g x) (hr : RRow w a n cap x.l) (hn : ∀ c ∈ blk a cap, c ∉ [B, g.b]) {s : OpV} (hk0 : 0 ≤ s.kind ∧ s.kind ≤ 255) (ht : -9223372036854775808 ≤ s.t ∧ s.t ≤ 9223372036854775807) (hp : OpA2 w B g s) :
    Calls Try.prog 8 #[.pointer (some ⟨B, 0, none⟩), rV x a n cap, .agg (opC s)] w (DoesP w B g (blk a cap) (stp x s)) := by
  have : s.kind % 3 = 0 ∨ s.kind % 3 = 1 ∨ s.kind % 3 = 2 := by omega
  rcases this with q | q | q
  · exact does_write h hr hn hk0 hp q
  · exact does_free h hr hn hk0 ht q
  · exact does_read h hr hn hk0 q
end Go.Proofs.Ytjkjbhapkmamkaa.bf
