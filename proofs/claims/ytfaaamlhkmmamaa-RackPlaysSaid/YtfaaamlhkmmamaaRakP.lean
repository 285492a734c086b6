/-
  RackPlays (written by gen_rakp.py).
-/
import Derived.Test.YtfaaamlhkmmamaaRakH
namespace Go.Proofs.Ytfaaamlhkmmamaa.rk
open Go.RowKit aid mem bk
attribute [local go_sem ↓] Go.wp_at_zero Go.wp_at_succ
set_option linter.unusedVariables false
set_option linter.unusedSimpArgs false

theorem opa_atP {w : World} {a : Option Addr} {n cap : Nat} {l : List OpV} (h : OpA w a n cap l) {k : Nat} (hk : k < n) : ∃ B off, a = some ⟨B, off, none⟩ ∧ B < w.heap.size ∧ OpOk (l.getD k default) ∧ ∀ W, Below w.heap.size w W → W.cell? ⟨B, off + k * 15, none⟩ = some (.int .u8 (l.getD k default).kind) ∧ W.cell? ⟨B, off + k * 15 + 1, none⟩ = some (.int .i64 (l.getD k default).r.f) ∧ W.cell? ⟨B, off + k * 15 + 2, none⟩ = some (.int .i64 (l.getD k default).r.t) ∧ W.cell? ⟨B, off + k * 15 + 3, none⟩ = some (.int .i64 (l.getD k default).r.sent) ∧ W.cell? ⟨B, off + k * 15 + 4, none⟩ = some (.int .i64 (l.getD k default).r.order) ∧ W.cell? ⟨B, off + k * 15 + 5, none⟩ = some (.int .i64 (l.getD k default).r.times) ∧ W.cell? ⟨B, off + k * 15 + 6, none⟩ = some (.int .i64 (l.getD k default).r.out) ∧ W.cell? ⟨B, off + k * 15 + 7, none⟩ = some (.bool (l.getD k default).r.lost) ∧ W.cell? ⟨B, off + k * 15 + 8, none⟩ = some (.int .i64 (l.getD k default).now) ∧ W.cell? ⟨B, off + k * 15 + 9, none⟩ = some (.int .i64 (l.getD k default).least) ∧ W.cell? ⟨B, off + k * 15 + 10, none⟩ = some (.bool (l.getD k default).has) ∧ W.cell? ⟨B, off + k * 15 + 11, none⟩ = some (.bool (l.getD k default).echo.1) ∧ W.cell? ⟨B, off + k * 15 + 12, none⟩ = some (.int .u32 (l.getD k default).echo.2) ∧ W.cell? ⟨B, off + k * 15 + 13, none⟩ = some (.int .i64 (l.getD k default).a) ∧ W.cell? ⟨B, off + k * 15 + 14, none⟩ = some (.int .i64 (l.getD k default).b) := by
  obtain ⟨B, off, rfl, hc⟩ := h.cells (by omega)
  obtain ⟨c0, c1, c2, c3, c4, c5, c6, c7, c8, c9, c10, c11, c12, c13, c14, hok⟩ := hc k hk
  have hlt := World.block_lt_of_cell? w _ c0
  exact ⟨B, off, rfl, hlt, hok, fun W hb => ⟨(hb.cell (World.block_lt_of_cell? w _ c0)).trans c0, (hb.cell (World.block_lt_of_cell? w _ c1)).trans c1, (hb.cell (World.block_lt_of_cell? w _ c2)).trans c2, (hb.cell (World.block_lt_of_cell? w _ c3)).trans c3, (hb.cell (World.block_lt_of_cell? w _ c4)).trans c4, (hb.cell (World.block_lt_of_cell? w _ c5)).trans c5, (hb.cell (World.block_lt_of_cell? w _ c6)).trans c6, (hb.cell (World.block_lt_of_cell? w _ c7)).trans c7, (hb.cell (World.block_lt_of_cell? w _ c8)).trans c8, (hb.cell (World.block_lt_of_cell? w _ c9)).trans c9, (hb.cell (World.block_lt_of_cell? w _ c10)).trans c10, (hb.cell (World.block_lt_of_cell? w _ c11)).trans c11, (hb.cell (World.block_lt_of_cell? w _ c12)).trans c12, (hb.cell (World.block_lt_of_cell? w _ c13)).trans c13, (hb.cell (World.block_lt_of_cell? w _ c14)).trans c14⟩⟩
/-- rack's, the document's in a box, and the last operation's box -/
structure FM (w0 : World) (X X2 : Nat) (x : Rk) (o : OpV) (W : World) : Prop where
  f : FL w0 X X2 x W
  ob : W.heap[w0.heap.size]? = some (opO o)
  xo : w0.heap.size < X
/-- within a round: a new box at Z -/
structure GM (w0 : World) (X X2 Z : Nat) (x y : Rk) (o : OpV) (W : World) : Prop where
  rk : RkAt W X y
  bx : W.heap[X2]? = some (rkO x)
  bz : W.heap[Z]? = some (rkO y)
  ob : W.heap[w0.heap.size]? = some (opO o)
  ok : Ok y
  below : Below w0.heap.size w0 W
  xo : w0.heap.size < X
  ne : X < X2
  nz : X2 < Z
section
variable {w0 W W' : World} {X X2 Z : Nat} {x y : Rk} {o : OpV}
theorem FM.later (h : FM w0 X X2 x o W) (hb : Below W.heap.size W W') : FM w0 X X2 x o W' := ⟨h.f.later hb, (hb.block _ (lt_of_block h.ob)).trans h.ob, h.xo⟩
theorem FM.drew (h : FM w0 X X2 x o W) : FM w0 X X2 x o W.drew := ⟨h.f.drew, h.ob, h.xo⟩
theorem GM.later (h : GM w0 X X2 Z x y o W) (hb : Below W.heap.size W W') : GM w0 X X2 Z x y o W' :=
  ⟨h.rk.later hb, (hb.block _ (lt_of_block h.bx)).trans h.bx, (hb.block _ (lt_of_block h.bz)).trans h.bz, (hb.block _ (lt_of_block h.ob)).trans h.ob, h.ok, h.below.trans (hb.mono h.below.size), h.xo, h.ne, h.nz⟩
/-- something else was written -/
theorem FM.other {C : Nat} (h : FM w0 X X2 x o W) (hk : Kept [C] W W') (h1 : X < C) (h2 : X2 < C) (h3 : w0.heap.size < C) : FM w0 X X2 x o W' :=
  ⟨⟨h.f.rk.keep hk (by simp; omega), hk.heap (by simp; omega) h.f.bx, h.f.ok, h.f.below.trans (hk.below (by simp; omega) h.f.below.size), h.f.xl, h.f.ne⟩, hk.heap (by simp; omega) h.ob, h.xo⟩
/-- the call wrote rack's -/
theorem FM.wrote (h : FM w0 X X2 x o W) (hx : RkAt W' X y) (ho : Ok y) (hk : Kept [X] W W') : RkAt W' X y ∧ W'.heap[X2]? = some (rkO x) ∧ W'.heap[w0.heap.size]? = some (opO o) ∧ Below w0.heap.size w0 W' := by
  have := h.f.ne; have := h.xo; have := h.f.xl
  exact ⟨hx, hk.heap (by simp; omega) h.f.bx, hk.heap (by simp; omega) h.ob, h.f.below.trans (hk.below (by simpa using h.f.xl) h.f.below.size)⟩
theorem FM.stepA (h : FM w0 X X2 x o W) (hx : RkAt W' X y) (ho : Ok y) (hk : Kept [X] W W') : GM w0 X X2 W'.heap.size x y o (W'.alloc (rkO y)) := by
  obtain ⟨h1, h2, h3, h4⟩ := h.wrote hx ho hk
  have hb := al W' (rkO y)
  exact ⟨h1.later hb, (hb.block _ (lt_of_block h2)).trans h2, heap_alloc_new _ _, (hb.block _ (lt_of_block h3)).trans h3, ho, h4.trans (hb.mono h4.size), h.xo, h.f.ne, lt_of_block h2⟩
theorem FM.stepB (h : FM w0 X X2 x o W) (hx : RkAt W' X y) (ho : Ok y) (hk : Kept [X] W W') {z : Rk} (hz : W.heap[Z]? = some (rkO z)) (hZ : X2 < Z) : GM w0 X X2 Z x y o (put8 Z y W') ∧ W'.heap[Z]? = some (rkO z) := by
  obtain ⟨h1, h2, h3, h4⟩ := h.wrote hx ho hk
  have hn := h.f.ne; have hxo := h.xo
  have kk := put8_kept Z y W'
  have hz2 := hk.heap (by simp; omega) hz
  exact ⟨⟨h1.keep kk (by simp; omega), kk.heap (by simp; omega) h2, put8_at hz2 y, kk.heap (by simp; omega) h3, ho, h4.trans (kk.below (by simp; omega) h4.size), h.xo, h.f.ne, hZ⟩, hz2⟩
theorem GM.fin (h : GM w0 X X2 Z x y o W) : FM w0 X X2 y o (put8 X2 y W) := by
  have hn := h.ne; have hxo := h.xo
  have kk := put8_kept X2 y W
  exact ⟨⟨h.rk.keep kk (by simp; omega), put8_at h.bx y, h.ok, h.below.trans (kk.below (by simp; omega) h.below.size), by omega, h.ne⟩, kk.heap (by simp; omega) h.ob, h.xo⟩
end
theorem fm_new {w0 W : World} {X : Nat} {x : Rk} {o : OpV} (hb : Below w0.heap.size w0 W) (hob : W.heap[w0.heap.size]? = some (opO o)) (hx : RkAt W X x) (ho : Ok x) (hX : w0.heap.size < X) : FM w0 X W.heap.size x o (W.alloc (rkO x)) :=
  ⟨FL.made hb hx ho (by omega), ((al W _).block _ (lt_of_block hob)).trans hob, hX⟩
set_option maxRecDepth 100000 in
set_option maxHeartbeats 8000000 in
theorem walk_RackPlays (w : World) (floor : Int) (hfl : -9223372036854775808 ≤ floor ∧ floor ≤ 9223372036854775807) (a : Option Addr) (n cap : Nat) (ops : List OpV) (hops : OpA w a n cap ops) (o : {q : OpV // OpOk q}) (sharp : Bool) :
    Calls Try.prog 3 #[.int .i64 floor, .slice a n cap, .agg (opC o.1), .bool sharp] w fun x w' => x = .returned (.bool true) ∧ Below w.heap.size w w' := by
  obtain ⟨o, hoo⟩ := o
  dsimp only
  have HOO := Lib.hid hoo
  clear hoo
  have hb := al w (opO o)
  have hob := heap_alloc_new w (opO o)
  have hle := hops.le
  have hmost := hops.most
  unfold maxLen at hmost
  have HC := Lib.hid (fun (k : Nat) (hk : k < n) => opa_atP hops hk)
  have HSZ := Lib.hid (show (w.alloc (opO o)).heap.size = w.heap.size + 1 from by simp)
  clear hops
  by_cases hf : 0 ≤ floor ∧ floor ≤ 68719476736
  case neg =>
    have HN := Lib.hid (fun W => new_bad (w := W) (f := floor) (by omega))
    by_cases hf0 : floor < 0
    · clear hf hob HSZ
      go_enter Try.func3, Try.ntmps3
      go_wp2_with (first
        | (go_at_call 8; (with_reducible refine (known_b hb).mono ?_); clear hb; rintro e w1 ⟨rfl, hb⟩)
        | (go_at_call 9; (with_reducible refine (HN.out _).mono ?_); rintro e w2 ⟨rfl, rfl⟩))
      go_ret
      exact ⟨rfl, hb⟩
    · have hf1 : 68719476736 < floor := by omega
      clear hf hob HSZ
      go_enter Try.func3, Try.ntmps3
      go_wp2_with (first
        | (go_at_call 8; (with_reducible refine (known_b hb).mono ?_); clear hb; rintro e w1 ⟨rfl, hb⟩)
        | (go_at_call 9; (with_reducible refine (HN.out _).mono ?_); rintro e w2 ⟨rfl, rfl⟩))
      go_ret
      exact ⟨rfl, hb⟩
  case pos =>
    have HN := Lib.hid (fun W => new_any hf W)
    have HNE := Lib.hid hf
    obtain ⟨hf0, hf1⟩ := hf
    have hsz := Nat.le_of_eq HSZ.out.symm
    have HOB := Lib.hid hob
    have hbb : Below (w.alloc (opO o)).heap.size (w.alloc (opO o)) (w.alloc (opO o)) := Below.refl _ _
    have HB0 := Lib.hid (fun V (h : Below (w.alloc (opO o)).heap.size (w.alloc (opO o)) V) => (h.block _ (lt_of_block hob)).trans hob)
    clear HOB hob HSZ
    go_enter Try.func3, Try.ntmps3
    go_wp2_with (first
      | (go_at_call 8; (with_reducible refine (known_b hbb).mono ?_); clear hbb; rintro e w1 ⟨rfl, hbb⟩)
      | (go_at_call 9; (with_reducible refine (HN.out _).mono ?_); rintro e w2 ⟨rfl, x2, b2⟩; have hX := hbb.size; generalize w1.heap.size = X at x2 hX ⊢; replace hbb := hbb.trans (b2.mono hbb.size); clear b2)
      | (go_at_call 10; (with_reducible refine (rnew_any _ _).mono ?_); rintro e w3 ⟨rfl, b3⟩; replace x2 := x2.later b3; replace hbb := hbb.trans (b3.mono hbb.size); clear b3))
    have P0 : FM w X w3.heap.size (newR floor) o (w3.alloc (rkO (newR floor))) := fm_new (hb.trans (hbb.mono hb.size)) (HB0.out _ hbb) x2 (new_ok HNE.out) (by omega)
    clear x2 hbb hb HB0
    generalize w3.heap.size = X2 at *
    go_loopw [12] (fun i wr => ∃ (k : Nat) (x : Rk), i = .int .i64 k ∧ k ≤ n ∧ k ≤ 200 ∧ FM w X X2 x o wr) (fun i _ => 200 - (intOf i).toNat)
    case atStart => exact ⟨0, _, rfl, by omega, by omega, P0⟩
    case round =>
      clear P0
      obtain ⟨k, x, rfl, hk, hk3, S⟩ := hrel
      by_cases hlt : k < n ∧ k < 200
      case neg =>
        have HKL := Lib.hid (fun V (h : RkAt V X x) => clone_any h)
        have HSO := Lib.hid (S.f.ok.stp o)
        have HEX := Lib.hid (fun V (h : RkAt V X x) => equal_any h)
        have HDC := Lib.hid (fun V C (h : RkAt V C x) => does_any h S.f.ok HOO.out)
        unfold DoesP at HDC
        have HF := Lib.hid S
        clear S
        obtain ⟨r0, r1, r2, r3, r4, r5, r6, r7⟩ := r8 HF.out.f.bx
        obtain ⟨c0, c1, c2, c3, c4, c5, c6, c7, c8, c9, c10, c11, c12, c13, c14⟩ := op_cs HF.out.ob
        generalize stp x o = y at *
        by_cases h1 : k < n
        · have h2 : ¬ k < 200 := by omega
          go_wp2_with (first
            | (go_at_call 15; (with_reducible refine (HKL.out _ HF.out.f.rk).mono ?_); rintro e w5 ⟨rfl, hc, hb5⟩; have HF5 := Lib.hid (HF.out.later hb5); have HCL := Lib.hid (show X < wr.heap.size ∧ X2 < wr.heap.size ∧ w.heap.size < wr.heap.size from ⟨HF.out.f.rk.lt, lt_of_block HF.out.f.bx, lt_of_block HF.out.ob⟩); clear r0 r1 r2 r3 r4 r5 r6 r7 c0 c1 c2 c3 c4 c5 c6 c7 c8 c9 c10 c11 c12 c13 c14 hb5; obtain ⟨r0, r1, r2, r3, r4, r5, r6, r7⟩ := r8 HF5.out.f.bx; obtain ⟨c0, c1, c2, c3, c4, c5, c6, c7, c8, c9, c10, c11, c12, c13, c14⟩ := op_cs HF5.out.ob; have HCC := Lib.hid hc; clear hc; generalize wr.heap.size = CC at *)
            | (go_at_call 11; (with_reducible refine (HDC.out _ _ HCC.out).mono ?_); rintro e w6 ⟨rfl, q1, q2⟩; have HC6 := Lib.hid q1; have HF6 := Lib.hid (HF5.out.other q2 HCL.out.1 HCL.out.2.1 HCL.out.2.2); clear r0 r1 r2 r3 r4 r5 r6 r7 c0 c1 c2 c3 c4 c5 c6 c7 c8 c9 c10 c11 c12 c13 c14 q1 q2 HF5 HCC; have ha := al w6 (rkO y); have HV := Lib.hid (heap_alloc_new w6 (rkO y)); have HC7 := Lib.hid (HC6.out.later ha); have HF7 := Lib.hid (HF6.out.later ha); clear ha HF6 HC6; generalize w6.heap.size = VV at *; obtain ⟨r0, r1, r2, r3, r4, r5, r6, r7⟩ := r8 HF7.out.f.bx; obtain ⟨v0, v1, v2, v3, v4, v5, v6, v7⟩ := r8 HV.out)
            | (go_at_call 12; first
              | ((with_reducible refine (equal_any HC7.out).mono ?_); rintro e w8 ⟨rfl, hb8⟩; have HF8 := Lib.hid (HF7.out.later hb8); clear r0 r1 r2 r3 r4 r5 r6 r7 v0 v1 v2 v3 v4 v5 v6 v7 hb8 HC7 HF7 HV; obtain ⟨r0, r1, r2, r3, r4, r5, r6, r7⟩ := r8 HF8.out.f.bx)
              | ((with_reducible refine (equal_any HF8.out.f.rk).mono ?_); rintro e w9 ⟨rfl, hb9⟩; have HF9 := Lib.hid (HF8.out.later hb9); clear r0 r1 r2 r3 r4 r5 r6 r7 hb9 HF8))
            | (go_at_call 8; (with_reducible refine (known_b HF9.out.f.below).mono ?_); rintro e w10 ⟨rfl, hb10⟩))
          go_ret
          exact ⟨rfl, hb10⟩
        · go_wp2_with (first
            | (go_at_call 15; (with_reducible refine (HKL.out _ HF.out.f.rk).mono ?_); rintro e w5 ⟨rfl, hc, hb5⟩; have HF5 := Lib.hid (HF.out.later hb5); have HCL := Lib.hid (show X < wr.heap.size ∧ X2 < wr.heap.size ∧ w.heap.size < wr.heap.size from ⟨HF.out.f.rk.lt, lt_of_block HF.out.f.bx, lt_of_block HF.out.ob⟩); clear r0 r1 r2 r3 r4 r5 r6 r7 c0 c1 c2 c3 c4 c5 c6 c7 c8 c9 c10 c11 c12 c13 c14 hb5; obtain ⟨r0, r1, r2, r3, r4, r5, r6, r7⟩ := r8 HF5.out.f.bx; obtain ⟨c0, c1, c2, c3, c4, c5, c6, c7, c8, c9, c10, c11, c12, c13, c14⟩ := op_cs HF5.out.ob; have HCC := Lib.hid hc; clear hc; generalize wr.heap.size = CC at *)
            | (go_at_call 11; (with_reducible refine (HDC.out _ _ HCC.out).mono ?_); rintro e w6 ⟨rfl, q1, q2⟩; have HC6 := Lib.hid q1; have HF6 := Lib.hid (HF5.out.other q2 HCL.out.1 HCL.out.2.1 HCL.out.2.2); clear r0 r1 r2 r3 r4 r5 r6 r7 c0 c1 c2 c3 c4 c5 c6 c7 c8 c9 c10 c11 c12 c13 c14 q1 q2 HF5 HCC; have ha := al w6 (rkO y); have HV := Lib.hid (heap_alloc_new w6 (rkO y)); have HC7 := Lib.hid (HC6.out.later ha); have HF7 := Lib.hid (HF6.out.later ha); clear ha HF6 HC6; generalize w6.heap.size = VV at *; obtain ⟨r0, r1, r2, r3, r4, r5, r6, r7⟩ := r8 HF7.out.f.bx; obtain ⟨v0, v1, v2, v3, v4, v5, v6, v7⟩ := r8 HV.out)
            | (go_at_call 12; first
              | ((with_reducible refine (equal_any HC7.out).mono ?_); rintro e w8 ⟨rfl, hb8⟩; have HF8 := Lib.hid (HF7.out.later hb8); clear r0 r1 r2 r3 r4 r5 r6 r7 v0 v1 v2 v3 v4 v5 v6 v7 hb8 HC7 HF7 HV; obtain ⟨r0, r1, r2, r3, r4, r5, r6, r7⟩ := r8 HF8.out.f.bx)
              | ((with_reducible refine (equal_any HF8.out.f.rk).mono ?_); rintro e w9 ⟨rfl, hb9⟩; have HF9 := Lib.hid (HF8.out.later hb9); clear r0 r1 r2 r3 r4 r5 r6 r7 hb9 HF8))
            | (go_at_call 8; (with_reducible refine (known_b HF9.out.f.below).mono ?_); rintro e w10 ⟨rfl, hb10⟩))
          go_ret
          exact ⟨rfl, hb10⟩
      case pos =>
      obtain ⟨h1, h2⟩ := hlt
      obtain ⟨Bo, off, rfl, hB, hok, hcs⟩ := HC.out k h1
      have HOK := Lib.hid (And.intro hok hB)
      have HCS := Lib.hid hcs
      clear hok hcs hB
      generalize ops.getD k default = s at *
      have HYO := Lib.hid (S.f.ok.stp s)
      have HD := Lib.hid (fun V (h : FM w X X2 x o V) => does_any h.f.rk h.f.ok HOK.out.1)
      unfold DoesP at HD
      have HBS := Lib.hid S.f.below
      generalize stp x s = y at *
      go_upto_region 12 with fail
      go_cut [13, 14] (fun s13 s14 wx => ∃ Z, s13 = .pointer (some ⟨Z, 0, none⟩) ∧ s14 = .bool true ∧ Hid (GM w X X2 Z x y o wx))
      case first =>
        have SD := Lib.hid S.drew
        have SA := Lib.hid ((S.later (al wr (rkO rkZ))).drew)
        have HZL := Lib.hid (show X2 < wr.heap.size from lt_of_block S.f.bx)
        have HNZ := Lib.hid (heap_alloc_new wr (rkO rkZ))
        clear S
        have HSO : Hid (∀ V, V.heap[X2]? = some (rkO x) → Below w.heap.size w V → (V.cell? ⟨X2, 0, none⟩ = some (.int .i64 x.floor) ∧ V.cell? ⟨X2, 1, none⟩ = some (.int .i64 x.rtt) ∧ V.cell? ⟨X2, 2, none⟩ = some (.int .i64 x.order) ∧ V.cell? ⟨X2, 3, none⟩ = some (.int .i64 x.fin) ∧ V.cell? ⟨X2, 4, none⟩ = some (.bool x.mixed) ∧ V.cell? ⟨X2, 5, none⟩ = some (.int .i64 x.mult) ∧ V.cell? ⟨X2, 6, none⟩ = some (.int .i64 x.round) ∧ V.cell? ⟨X2, 7, none⟩ = some (.int .i64 x.rest) ∧ V.cell? ⟨Bo, off + k * 15, none⟩ = some (.int .u8 s.kind) ∧ V.cell? ⟨Bo, off + k * 15 + 1, none⟩ = some (.int .i64 s.r.f) ∧ V.cell? ⟨Bo, off + k * 15 + 2, none⟩ = some (.int .i64 s.r.t) ∧ V.cell? ⟨Bo, off + k * 15 + 3, none⟩ = some (.int .i64 s.r.sent) ∧ V.cell? ⟨Bo, off + k * 15 + 4, none⟩ = some (.int .i64 s.r.order) ∧ V.cell? ⟨Bo, off + k * 15 + 5, none⟩ = some (.int .i64 s.r.times) ∧ V.cell? ⟨Bo, off + k * 15 + 6, none⟩ = some (.int .i64 s.r.out) ∧ V.cell? ⟨Bo, off + k * 15 + 7, none⟩ = some (.bool s.r.lost) ∧ V.cell? ⟨Bo, off + k * 15 + 8, none⟩ = some (.int .i64 s.now) ∧ V.cell? ⟨Bo, off + k * 15 + 9, none⟩ = some (.int .i64 s.least) ∧ V.cell? ⟨Bo, off + k * 15 + 10, none⟩ = some (.bool s.has) ∧ V.cell? ⟨Bo, off + k * 15 + 11, none⟩ = some (.bool s.echo.1) ∧ V.cell? ⟨Bo, off + k * 15 + 12, none⟩ = some (.int .u32 s.echo.2) ∧ V.cell? ⟨Bo, off + k * 15 + 13, none⟩ = some (.int .i64 s.a) ∧ V.cell? ⟨Bo, off + k * 15 + 14, none⟩ = some (.int .i64 s.b))) := Lib.hid (by
          intro V h hb
          obtain ⟨r0, r1, r2, r3, r4, r5, r6, r7⟩ := r8 h
          obtain ⟨c0, c1, c2, c3, c4, c5, c6, c7, c8, c9, c10, c11, c12, c13, c14⟩ := HCS.out V hb
          exact ⟨r0, r1, r2, r3, r4, r5, r6, r7, c0, c1, c2, c3, c4, c5, c6, c7, c8, c9, c10, c11, c12, c13, c14⟩)
        have P0 := HSO.out _ SD.out.f.bx SD.out.f.below
        have P1 := HSO.out _ SA.out.f.bx SA.out.f.below
        go_wp2_with fail
        go_region_held3 (fun w' => w'.cell? ⟨X2, 0, none⟩ = some (.int .i64 x.floor) ∧ w'.cell? ⟨X2, 1, none⟩ = some (.int .i64 x.rtt) ∧ w'.cell? ⟨X2, 2, none⟩ = some (.int .i64 x.order) ∧ w'.cell? ⟨X2, 3, none⟩ = some (.int .i64 x.fin) ∧ w'.cell? ⟨X2, 4, none⟩ = some (.bool x.mixed) ∧ w'.cell? ⟨X2, 5, none⟩ = some (.int .i64 x.mult) ∧ w'.cell? ⟨X2, 6, none⟩ = some (.int .i64 x.round) ∧ w'.cell? ⟨X2, 7, none⟩ = some (.int .i64 x.rest) ∧ w'.cell? ⟨Bo, off + k * 15, none⟩ = some (.int .u8 s.kind) ∧ w'.cell? ⟨Bo, off + k * 15 + 1, none⟩ = some (.int .i64 s.r.f) ∧ w'.cell? ⟨Bo, off + k * 15 + 2, none⟩ = some (.int .i64 s.r.t) ∧ w'.cell? ⟨Bo, off + k * 15 + 3, none⟩ = some (.int .i64 s.r.sent) ∧ w'.cell? ⟨Bo, off + k * 15 + 4, none⟩ = some (.int .i64 s.r.order) ∧ w'.cell? ⟨Bo, off + k * 15 + 5, none⟩ = some (.int .i64 s.r.times) ∧ w'.cell? ⟨Bo, off + k * 15 + 6, none⟩ = some (.int .i64 s.r.out) ∧ w'.cell? ⟨Bo, off + k * 15 + 7, none⟩ = some (.bool s.r.lost) ∧ w'.cell? ⟨Bo, off + k * 15 + 8, none⟩ = some (.int .i64 s.now) ∧ w'.cell? ⟨Bo, off + k * 15 + 9, none⟩ = some (.int .i64 s.least) ∧ w'.cell? ⟨Bo, off + k * 15 + 10, none⟩ = some (.bool s.has) ∧ w'.cell? ⟨Bo, off + k * 15 + 11, none⟩ = some (.bool s.echo.1) ∧ w'.cell? ⟨Bo, off + k * 15 + 12, none⟩ = some (.int .u32 s.echo.2) ∧ w'.cell? ⟨Bo, off + k * 15 + 13, none⟩ = some (.int .i64 s.a) ∧ w'.cell? ⟨Bo, off + k * 15 + 14, none⟩ = some (.int .i64 s.b)) (first | with_reducible exact P3 | with_reducible exact P4 | with_reducible exact P2 | with_reducible exact P1 | with_reducible exact P0 | go_keep)
          ((go_at_call 11; first
            | ((with_reducible refine (HD.out _ SD.out).mono ?_); rintro e w5 ⟨rfl, q1, q2⟩; have RF := Lib.hid (SD.out.stepA q1 HYO.out q2); obtain ⟨u1, u2, u3, u4⟩ := SD.out.wrote q1 HYO.out q2; have P2 := HSO.out _ u2 u4; have P3 := HSO.out _ RF.out.bx RF.out.below; clear q1 q2 u1 u2 u3 u4)
            | ((with_reducible refine (HD.out _ SA.out).mono ?_); rintro e w5 ⟨rfl, q1, q2⟩; obtain ⟨RF, hz⟩ := SA.out.stepB q1 HYO.out q2 HNZ.out HZL.out; replace RF := Lib.hid RF; obtain ⟨u1, u2, u3, u4⟩ := SA.out.wrote q1 HYO.out q2; have P2 := HSO.out _ u2 u4; have P4 := HSO.out _ RF.out.bx RF.out.below; have g0 := fofr hz 0; have g1 := fofr hz 1; have g2 := fofr hz 2; have g3 := fofr hz 3; have g4 := fofr hz 4; have g5 := fofr hz 5; have g6 := fofr hz 6; have g7 := fofr hz 7; have d0 := cofr hz 0 _ rfl; have d1 := cofr hz 1 _ rfl; have d2 := cofr hz 2 _ rfl; have d3 := cofr hz 3 _ rfl; have d4 := cofr hz 4 _ rfl; have d5 := cofr hz 5 _ rfl; have d6 := cofr hz 6 _ rfl; have d7 := cofr hz 7 _ rfl; clear q1 q2 u1 u2 u3 u4)))
        all_goals
          have HRR := Lib.hid RF.out
          clear RF HSO HD SD SA HNZ
          go_wp2_with fail
          go_meet
          exact ⟨_, rfl, rfl, HRR⟩
      case rest =>
        obtain ⟨Z, rfl, rfl, HG⟩ := hcut
        clear S HD
        generalize wc = V at *
        obtain ⟨r0, r1, r2, r3, r4, r5, r6, r7⟩ := r8 HG.out.bx
        obtain ⟨z0, z1, z2, z3, z4, z5, z6, z7⟩ := r8 HG.out.bz
        have f0 := fofr HG.out.bx 0; have f1 := fofr HG.out.bx 1; have f2 := fofr HG.out.bx 2; have f3 := fofr HG.out.bx 3; have f4 := fofr HG.out.bx 4; have f5 := fofr HG.out.bx 5; have f6 := fofr HG.out.bx 6; have f7 := fofr HG.out.bx 7
        have hf := HG.out.fin
        unfold put8 at hf
        have HF := Lib.hid hf
        clear hf
        clear HG
        go_upto_region 14 with fail
        clear r0 r1 r2 r3 r4 r5 r6 r7 z0 z1 z2 z3 z4 z5 z6 z7 f0 f1 f2 f3 f4 f5 f6 f7
        generalize hV : (((((((V.setCell ⟨X2, 0, none⟩ (.int .i64 y.floor)).setCell ⟨X2, 1, none⟩ (.int .i64 y.rtt)).setCell ⟨X2, 2, none⟩ (.int .i64 y.order)).setCell ⟨X2, 3, none⟩ (.int .i64 y.fin)).setCell ⟨X2, 4, none⟩ (.bool y.mixed)).setCell ⟨X2, 5, none⟩ (.int .i64 y.mult)).setCell ⟨X2, 6, none⟩ (.int .i64 y.round)).setCell ⟨X2, 7, none⟩ (.int .i64 y.rest) = U at *
        clear hV
        go_cut [115] (fun s115 wx => s115 = .bool false ∧ Hid (FM w X X2 y o wx))
        case first =>
          have HSO : Hid (∀ V, V.heap[X2]? = some (rkO y) → Below w.heap.size w V → (V.cell? ⟨X2, 0, none⟩ = some (.int .i64 y.floor) ∧ V.cell? ⟨X2, 1, none⟩ = some (.int .i64 y.rtt) ∧ V.cell? ⟨X2, 2, none⟩ = some (.int .i64 y.order) ∧ V.cell? ⟨X2, 3, none⟩ = some (.int .i64 y.fin) ∧ V.cell? ⟨X2, 4, none⟩ = some (.bool y.mixed) ∧ V.cell? ⟨X2, 5, none⟩ = some (.int .i64 y.mult) ∧ V.cell? ⟨X2, 6, none⟩ = some (.int .i64 y.round) ∧ V.cell? ⟨X2, 7, none⟩ = some (.int .i64 y.rest) ∧ V.cell? ⟨Bo, off + k * 15, none⟩ = some (.int .u8 s.kind) ∧ V.cell? ⟨Bo, off + k * 15 + 1, none⟩ = some (.int .i64 s.r.f) ∧ V.cell? ⟨Bo, off + k * 15 + 2, none⟩ = some (.int .i64 s.r.t) ∧ V.cell? ⟨Bo, off + k * 15 + 3, none⟩ = some (.int .i64 s.r.sent) ∧ V.cell? ⟨Bo, off + k * 15 + 4, none⟩ = some (.int .i64 s.r.order) ∧ V.cell? ⟨Bo, off + k * 15 + 5, none⟩ = some (.int .i64 s.r.times) ∧ V.cell? ⟨Bo, off + k * 15 + 6, none⟩ = some (.int .i64 s.r.out) ∧ V.cell? ⟨Bo, off + k * 15 + 7, none⟩ = some (.bool s.r.lost) ∧ V.cell? ⟨Bo, off + k * 15 + 8, none⟩ = some (.int .i64 s.now) ∧ V.cell? ⟨Bo, off + k * 15 + 9, none⟩ = some (.int .i64 s.least) ∧ V.cell? ⟨Bo, off + k * 15 + 10, none⟩ = some (.bool s.has) ∧ V.cell? ⟨Bo, off + k * 15 + 11, none⟩ = some (.bool s.echo.1) ∧ V.cell? ⟨Bo, off + k * 15 + 12, none⟩ = some (.int .u32 s.echo.2) ∧ V.cell? ⟨Bo, off + k * 15 + 13, none⟩ = some (.int .i64 s.a) ∧ V.cell? ⟨Bo, off + k * 15 + 14, none⟩ = some (.int .i64 s.b))) := Lib.hid (by
            intro V h hb
            obtain ⟨r0, r1, r2, r3, r4, r5, r6, r7⟩ := r8 h
            obtain ⟨c0, c1, c2, c3, c4, c5, c6, c7, c8, c9, c10, c11, c12, c13, c14⟩ := HCS.out V hb
            exact ⟨r0, r1, r2, r3, r4, r5, r6, r7, c0, c1, c2, c3, c4, c5, c6, c7, c8, c9, c10, c11, c12, c13, c14⟩)
          have HE := Lib.hid (fun V (h : RkAt V X y) => equal_any h)
          have HWI := Lib.hid (fun V (h : RkAt V X y) => window_any h HYO.out s.least s.has s.a sharp)
          have HRW := Lib.hid (fun V => rwindow_any HYO.out s.least s.has s.a sharp V)
          generalize win y s.least s.has s.a sharp = v at *
          have G := Lib.hid HF.out.drew
          have P0 := HSO.out _ G.out.f.bx G.out.f.below
          go_wp2_with fail
          go_region_held3 (fun w' => w'.cell? ⟨X2, 0, none⟩ = some (.int .i64 y.floor) ∧ w'.cell? ⟨X2, 1, none⟩ = some (.int .i64 y.rtt) ∧ w'.cell? ⟨X2, 2, none⟩ = some (.int .i64 y.order) ∧ w'.cell? ⟨X2, 3, none⟩ = some (.int .i64 y.fin) ∧ w'.cell? ⟨X2, 4, none⟩ = some (.bool y.mixed) ∧ w'.cell? ⟨X2, 5, none⟩ = some (.int .i64 y.mult) ∧ w'.cell? ⟨X2, 6, none⟩ = some (.int .i64 y.round) ∧ w'.cell? ⟨X2, 7, none⟩ = some (.int .i64 y.rest) ∧ w'.cell? ⟨Bo, off + k * 15, none⟩ = some (.int .u8 s.kind) ∧ w'.cell? ⟨Bo, off + k * 15 + 1, none⟩ = some (.int .i64 s.r.f) ∧ w'.cell? ⟨Bo, off + k * 15 + 2, none⟩ = some (.int .i64 s.r.t) ∧ w'.cell? ⟨Bo, off + k * 15 + 3, none⟩ = some (.int .i64 s.r.sent) ∧ w'.cell? ⟨Bo, off + k * 15 + 4, none⟩ = some (.int .i64 s.r.order) ∧ w'.cell? ⟨Bo, off + k * 15 + 5, none⟩ = some (.int .i64 s.r.times) ∧ w'.cell? ⟨Bo, off + k * 15 + 6, none⟩ = some (.int .i64 s.r.out) ∧ w'.cell? ⟨Bo, off + k * 15 + 7, none⟩ = some (.bool s.r.lost) ∧ w'.cell? ⟨Bo, off + k * 15 + 8, none⟩ = some (.int .i64 s.now) ∧ w'.cell? ⟨Bo, off + k * 15 + 9, none⟩ = some (.int .i64 s.least) ∧ w'.cell? ⟨Bo, off + k * 15 + 10, none⟩ = some (.bool s.has) ∧ w'.cell? ⟨Bo, off + k * 15 + 11, none⟩ = some (.bool s.echo.1) ∧ w'.cell? ⟨Bo, off + k * 15 + 12, none⟩ = some (.int .u32 s.echo.2) ∧ w'.cell? ⟨Bo, off + k * 15 + 13, none⟩ = some (.int .i64 s.a) ∧ w'.cell? ⟨Bo, off + k * 15 + 14, none⟩ = some (.int .i64 s.b)) (first | with_reducible exact P3 | with_reducible exact P2 | with_reducible exact P1 | with_reducible exact P0 | go_keep)
            (first
            | (go_at_call 12; (with_reducible refine (HE.out _ G.out.f.rk).mono ?_); rintro e w5 ⟨rfl, q1⟩; have G1 := Lib.hid (G.out.later q1); have P1 := HSO.out _ G1.out.f.bx G1.out.f.below; clear q1)
            | (go_at_call 13; (with_reducible refine (HWI.out _ G1.out.f.rk).mono ?_); rintro e w6 ⟨rfl, q1⟩; have G2 := Lib.hid (G1.out.later q1); have P2 := HSO.out _ G2.out.f.bx G2.out.f.below; clear q1)
            | (go_at_call 14; (with_reducible refine (HRW.out _).mono ?_); rintro e w7 ⟨rfl, q1⟩; have G3 := Lib.hid (G2.out.later q1); have P3 := HSO.out _ G3.out.f.bx G3.out.f.below; clear q1))
          go_wp2_with fail
          go_meet
          exact ⟨rfl, G3⟩
        case rest =>
          obtain ⟨rfl, HN2⟩ := hcut
          clear HF
          go_wp2_with fail
          go_roundw
          case rel => exact ⟨k + 1, y, by go_num, by omega, by omega, HN2.out⟩
          case measure => simp [intOf]; omega
end Go.Proofs.Ytfaaamlhkmmamaa.rk
