/-
  Layer 20's law FrtoPlays.
-/
import Derived.Test.YtjnnbnjbcgdgpaaFrtL
import Derived.BigQuiet
namespace Go.Proofs.Ytjnnbnjbcgdgpaa.fr
open Go.RowKit aid mem
attribute [local go_sem ↓] Go.wp_at_zero Go.wp_at_succ
set_option linter.unusedVariables false
set_option linter.unusedSimpArgs false

/-- what lies in memory: one of one's own, the document's -/
structure PS (w : World) (b X : Nat) (x y : Fr) (W : World) : Prop where
  fs : FS w b x W
  x : W.heap[X]? = some (rvO y)
  bx : b ≠ X
  le : w.heap.size ≤ X
/-- and what is done -/
structure PO (w : World) (b X O : Nat) (x y : Fr) (s : OpV) (W : World) : Prop where
  ps : PS w b X x y W
  o : W.heap[O]? = some (opO s)
  bo : b ≠ O
  xo : X ≠ O
section
variable {w W W' : World} {b X O : Nat} {x x' y : Fr} {s : OpV}
theorem PS.later (h : PS w b X x y W) (hb : Below W.heap.size W W') : PS w b X x y W' := ⟨h.fs.later hb, (hb.block _ (lt_of_block h.x)).trans h.x, h.bx, h.le⟩
theorem PO.later (h : PO w b X O x y s W) (hb : Below W.heap.size W W') : PO w b X O x y s W' := ⟨h.ps.later hb, (hb.block _ (lt_of_block h.o)).trans h.o, h.bo, h.xo⟩
theorem PO.drew (h : PO w b X O x y s W) : PO w b X O x y s W.drew := ⟨⟨h.ps.fs.drew, h.ps.x, h.ps.bx, h.ps.le⟩, h.o, h.bo, h.xo⟩
theorem PO.drewN (h : PO w b X O x y s W) (n : Nat) : PO w b X O x y s (W.drewN n) := ⟨⟨h.ps.fs.drewN n, h.ps.x, h.ps.bx, h.ps.le⟩, h.o, h.bo, h.xo⟩
theorem PO.wrote (h : PO w b X O x y s W) (hx : FrAt W' b x') (hk : Kept [b] W W') : PO w b X O x' y s W' :=
  ⟨⟨h.ps.fs.wrote hx hk, hk.heap (by simp; exact Ne.symm h.ps.bx) h.ps.x, h.ps.bx, h.ps.le⟩, hk.heap (by simp; exact Ne.symm h.bo) h.o, h.bo, h.xo⟩
theorem PO.set (h : PO w b X O x y s W) (y' : Fr) : PO w b X O x y' s (put2 X (st y') (wt y') W) := by
  have hk := put2_kept X (st y') (wt y') W
  have hy := put2_at h.ps.x (st y') (wt y')
  exact ⟨⟨⟨h.ps.fs.s.keep hk (by simp; exact h.ps.bx), h.ps.fs.below.trans (hk.below (by simpa using h.ps.le) h.ps.fs.below.size), h.ps.fs.le⟩, hy, h.ps.bx, h.ps.le⟩, hk.heap (by simp; exact Ne.symm h.xo) h.o, h.bo, h.xo⟩
theorem PS.box (h : PS w b X x y W) (s : OpV) : PO w b X W.heap.size x y s (W.alloc (opO s)) :=
  ⟨h.later (al _ _), heap_alloc_new W _, by have := h.fs.s.lt; omega, by have := lt_of_block h.x; omega⟩
theorem start_po (h : PO w b X O x y s W) : Calls Try.prog 7 #[.pointer (some ⟨b, 0, none⟩)] W fun e w' => e = .returned (.bool (st x == 0)) ∧ PO w b X O .one y s w' :=
  (start_any h.ps.fs.s).mono fun e w' ⟨h1, h2, h3⟩ => ⟨h1, h.wrote h2 h3⟩
theorem stop_po (h : PO w b X O x y s W) : Calls Try.prog 8 #[.pointer (some ⟨b, 0, none⟩)] W fun e w' => e = .returned (.bool (decide (0 < st x))) ∧ PO w b X O .off y s w' :=
  (stop_any h.ps.fs.s).mono fun e w' ⟨h1, h2, h3⟩ => ⟨h1, h.wrote h2 h3⟩
theorem sent_po (h : PO w b X O x y s W) : Calls Try.prog 10 #[.pointer (some ⟨b, 0, none⟩)] W fun e w' => e = .returned (.bool (sndB x)) ∧ PO w b X O (snd x) y s w' :=
  (sent_any h.ps.fs.s).mono fun e w' ⟨h1, h2, h3⟩ => ⟨h1, h.wrote h2 h3⟩
theorem told_po (h : PO w b X O x y s W) (a wh f : Bool) : Calls Try.prog 12 #[.pointer (some ⟨b, 0, none⟩), .bool a, .bool wh, .bool f] W fun e w' => e = .returned (.int .i64 (toldN x a wh f)) ∧ PO w b X O (told x a wh f) y s w' :=
  (told_any h.ps.fs.s a wh f).mono fun e w' ⟨h1, h2, h3⟩ => ⟨h1, h.wrote h2 h3⟩
theorem holds_po (h : PO w b X O x y s W) : Calls Try.prog 13 #[.pointer (some ⟨b, 0, none⟩)] W fun e w' => e = .returned (.bool (decide (0 < st x))) ∧ PO w b X O x y s w' :=
  (holds_q h.ps.fs.s).below.mono fun e w' ⟨h1, h2⟩ => ⟨h1, h.later h2⟩
theorem room_po (h : PO w b X O x y s W) : Calls Try.prog 14 #[.pointer (some ⟨b, 0, none⟩)] W fun e w' => e = .returned (.int .i64 (rm x)) ∧ PO w b X O x y s w' :=
  (room_q h.ps.fs.s).below.mono fun e w' ⟨h1, h2⟩ => ⟨h1, h.later h2⟩
theorem rroom_po (h : PO w b X O x y s W) (z : Fr) : Calls Try.prog 15 #[rv z] W fun e w' => e = .returned (.int .i64 (rm z)) ∧ PO w b X O x y s w' :=
  (rroom_any z W).mono fun e w' ⟨h1, h2⟩ => ⟨h1, h.later h2⟩
theorem sent_r (h : PO w b X O x y s W) : Calls Try.prog 9 #[rv y] W fun e w' => e = .returned (.tuple #[rv (snd y), .bool (sndB y)]) ∧ PO w b X O x y s w' :=
  (rsent_any y W).mono fun e w' ⟨h1, h2⟩ => ⟨h1, h.later h2⟩
theorem told_r (h : PO w b X O x y s W) (a wh f : Bool) : Calls Try.prog 11 #[rv y, .bool a, .bool wh, .bool f] W fun e w' => e = .returned (.tuple #[rv (told y a wh f), .int .i64 (toldN y a wh f)]) ∧ PO w b X O x y s w' :=
  (rtold_any y a wh f W).mono fun e w' ⟨h1, h2⟩ => ⟨h1, h.later h2⟩
end
set_option maxRecDepth 100000 in
set_option maxHeartbeats 4000000 in
theorem walk_FrtoPlays (w : World) (a : Option Addr) (n cap : Nat) (ops : List OpV) (hops : OpA w a n cap ops) :
    Calls Try.prog 3 #[.slice a n cap] w fun x w' => x = .returned (.bool true) ∧ Below w.heap.size w w' := by
  have hb := Below.refl w.heap.size w
  have hle := hops.le
  have hmost := hops.most
  unfold maxLen at hmost
  have HC := Lib.hid hops.cells
  clear hops
  go_enter Try.func3, Try.ntmps3
  go_upto_region 4 with (go_at_call 6; (with_reducible refine (known_b hb).mono ?_); clear hb; rintro e w1 ⟨rfl, hb⟩)
  have S := fs_new hb
  clear hb
  generalize hW : w1.alloc (.cells #[.int .i64 0, .int .i64 0] 26) = w2 at *
  clear hW
  generalize w1.heap.size = b at *
  go_wp2_with fail
  have P0 : PS w b w2.heap.size .off .off (w2.alloc (rvO .off)) := ⟨S.later (al _ _), heap_alloc_new w2 _, Nat.ne_of_lt S.s.lt, S.below.size⟩
  clear S
  generalize w2.heap.size = X at *
  go_loopw [5] (fun i wr => ∃ (k : Nat) (x : Fr), i = .int .i64 k ∧ k ≤ n ∧ k ≤ 300 ∧ PS w b X x x wr) (fun i _ => 300 - (intOf i).toNat)
  case atStart => exact ⟨0, _, rfl, by omega, by omega, P0⟩
  case round =>
    clear P0
    obtain ⟨k, x, rfl, hk, hk3, S⟩ := hrel
    by_cases hlt : k < n ∧ k < 300
    case neg =>
      by_cases h1 : k < n
      · have h2 : ¬ k < 300 := by omega
        go_wp2_with (go_at_call 6; (with_reducible refine (known_b S.fs.below).mono ?_); clear S; rintro e w1 ⟨rfl, S⟩)
        go_ret
        exact ⟨rfl, S⟩
      · go_wp2_with (go_at_call 6; (with_reducible refine (known_b S.fs.below).mono ?_); clear S; rintro e w1 ⟨rfl, S⟩)
        go_ret
        exact ⟨rfl, S⟩
    case pos =>
    obtain ⟨h1, h2⟩ := hlt
    obtain ⟨Bo, off, rfl, hc⟩ := HC.out (by omega)
    obtain ⟨c0, c1, c2, c3, hok⟩ := hc k h1
    have c0 := (S.fs.below.cell (p := ⟨Bo, off + k * 4, none⟩) (World.block_lt_of_cell? w _ c0)).trans c0
    have c1 := (S.fs.below.cell (p := ⟨Bo, off + k * 4 + 1, none⟩) (World.block_lt_of_cell? w _ c1)).trans c1
    have c2 := (S.fs.below.cell (p := ⟨Bo, off + k * 4 + 2, none⟩) (World.block_lt_of_cell? w _ c2)).trans c2
    have c3 := (S.fs.below.cell (p := ⟨Bo, off + k * 4 + 3, none⟩) (World.block_lt_of_cell? w _ c3)).trans c3
    clear hc
    generalize ops.getD k default = s at *
    have s0 := hok.1; have s1 := hok.2
    clear hok
    go_upto_region 9 with fail
    have R := S.box s
    clear S c0 c1 c2 c3
    generalize hW : wr.alloc (opO s) = W at *
    clear hW
    generalize wr.heap.size = O at *
    obtain ⟨c0, c1, c2, c3⟩ := op_cs R.o
    by_cases hk0 : s.kind % 5 = 0
    · obtain ⟨r0, r1⟩ := rv_cs R.ps.x
      go_wp2_with fail
      go_region_held3 (fun w' => w'.cell? ⟨X, 0, none⟩ = some (.int .i64 (st x))) (first | with_reducible exact (rv_cs R1.ps.x).1 | with_reducible exact (rv_cs R.drew.ps.x).1 | go_keep)
        ((go_at_call 7; (with_reducible refine (start_po R.drew).mono ?_); rintro e w5 ⟨rfl, R1⟩))
      clear R r0 r1 c0 c1 c2 c3
      obtain ⟨r0, r1⟩ := rv_cs R1.ps.x
      have g0 := fofr R1.ps.x 0; have g1 := fofr R1.ps.x 1
      have RF : PO w b X O .one .one s ((w5.setCell ⟨X, 0, none⟩ (.int .i64 1)).setCell ⟨X, 1, none⟩ (.int .i64 0)) := R1.set .one
      clear R1
      go_upto_region 27 with fail
      generalize (w5.setCell ⟨X, 0, none⟩ (.int .i64 1)).setCell ⟨X, 1, none⟩ (.int .i64 0) = V at *
      clear r0 r1 g0 g1
      replace RF := RF.drew
      go_region_held3 (fun w' => w'.cell? ⟨X, 0, none⟩ = some (.int .i64 (st .one)) ∧ w'.cell? ⟨X, 1, none⟩ = some (.int .i64 (wt .one))) (first | with_reducible exact rv_cs RF.ps.x | go_keep)
        (first
          | (go_at_call 13; (with_reducible refine (holds_po RF).mono ?_); clear RF; rintro e w6 ⟨rfl, RF⟩)
          | (go_at_call 14; (with_reducible refine (room_po RF).mono ?_); clear RF; rintro e w6 ⟨rfl, RF⟩)
          | (go_at_call 15; (with_reducible refine (rroom_po RF _).mono ?_); clear RF; rintro e w6 ⟨rfl, RF⟩))
      all_goals
        go_wp2_with fail
        go_roundw
        case rel => exact ⟨k + 1, _, by go_num, by omega, by omega, RF.ps⟩
        case measure => simp [intOf]; omega
    by_cases hk1 : s.kind % 5 = 1
    · obtain ⟨r0, r1⟩ := rv_cs R.ps.x
      go_wp2_with fail
      go_region_held3 (fun w' => w'.cell? ⟨X, 0, none⟩ = some (.int .i64 (st x))) (first | with_reducible exact (rv_cs R1.ps.x).1 | with_reducible exact (rv_cs R.drew.ps.x).1 | go_keep)
        ((go_at_call 8; (with_reducible refine (stop_po R.drew).mono ?_); rintro e w5 ⟨rfl, R1⟩))
      clear R r0 r1 c0 c1 c2 c3
      obtain ⟨r0, r1⟩ := rv_cs R1.ps.x
      have g0 := fofr R1.ps.x 0; have g1 := fofr R1.ps.x 1
      have RF : PO w b X O .off .off s ((w5.setCell ⟨X, 0, none⟩ (.int .i64 0)).setCell ⟨X, 1, none⟩ (.int .i64 0)) := R1.set .off
      clear R1
      go_upto_region 27 with fail
      generalize (w5.setCell ⟨X, 0, none⟩ (.int .i64 0)).setCell ⟨X, 1, none⟩ (.int .i64 0) = V at *
      clear r0 r1 g0 g1
      replace RF := RF.drew
      go_region_held3 (fun w' => w'.cell? ⟨X, 0, none⟩ = some (.int .i64 (st .off)) ∧ w'.cell? ⟨X, 1, none⟩ = some (.int .i64 (wt .off))) (first | with_reducible exact rv_cs RF.ps.x | go_keep)
        (first
          | (go_at_call 13; (with_reducible refine (holds_po RF).mono ?_); clear RF; rintro e w6 ⟨rfl, RF⟩)
          | (go_at_call 14; (with_reducible refine (room_po RF).mono ?_); clear RF; rintro e w6 ⟨rfl, RF⟩)
          | (go_at_call 15; (with_reducible refine (rroom_po RF _).mono ?_); clear RF; rintro e w6 ⟨rfl, RF⟩))
      all_goals
        go_wp2_with fail
        go_roundw
        case rel => exact ⟨k + 1, _, by go_num, by omega, by omega, RF.ps⟩
        case measure => simp [intOf]; omega
    by_cases hk2 : s.kind % 5 = 2
    · obtain ⟨r0, r1⟩ := rv_cs R.ps.x
      go_upto_region 24 with (go_at_call 9; (with_reducible refine (sent_r R ).mono ?_); clear R r0 r1 c0 c1 c2 c3; rintro e w5 ⟨rfl, R⟩)
      have hz := heap_alloc_new w5 (rvO (snd x))
      replace R := R.later (al w5 (rvO (snd x)))
      generalize w5.alloc (rvO (snd x)) = w6 at *
      obtain ⟨z0, z1⟩ := rv_cs hz
      obtain ⟨r0, r1⟩ := rv_cs R.ps.x
      have g0 := fofr R.ps.x 0; have g1 := fofr R.ps.x 1
      have RF : PO w b X O x (snd x) s ((w6.setCell ⟨X, 0, none⟩ (.int .i64 (st (snd x)))).setCell ⟨X, 1, none⟩ (.int .i64 (wt (snd x)))) := R.set _
      go_upto_region 25 with fail
      clear R z0 z1 hz r0 r1 g0 g1
      generalize (w6.setCell ⟨X, 0, none⟩ (.int .i64 (st (snd x)))).setCell ⟨X, 1, none⟩ (.int .i64 (wt (snd x))) = V at *
      obtain ⟨c0, c1, c2, c3⟩ := op_cs RF.o
      go_upto_region 27 with (go_at_call 10; (with_reducible refine (sent_po RF ).mono ?_); clear RF c0 c1 c2 c3; rintro e w7 ⟨rfl, RF⟩)
      generalize snd x = y at *
      replace RF := RF.drew
      go_region_held3 (fun w' => w'.cell? ⟨X, 0, none⟩ = some (.int .i64 (st y)) ∧ w'.cell? ⟨X, 1, none⟩ = some (.int .i64 (wt y))) (first | with_reducible exact rv_cs RF.ps.x | go_keep)
        (first
          | (go_at_call 13; (with_reducible refine (holds_po RF).mono ?_); clear RF; rintro e w6 ⟨rfl, RF⟩)
          | (go_at_call 14; (with_reducible refine (room_po RF).mono ?_); clear RF; rintro e w6 ⟨rfl, RF⟩)
          | (go_at_call 15; (with_reducible refine (rroom_po RF _).mono ?_); clear RF; rintro e w6 ⟨rfl, RF⟩))
      all_goals
        go_wp2_with fail
        go_roundw
        case rel => exact ⟨k + 1, _, by go_num, by omega, by omega, RF.ps⟩
        case measure => simp [intOf]; omega
    · obtain ⟨r0, r1⟩ := rv_cs R.ps.x
      go_upto_region 11 with (go_at_call 11; (with_reducible refine (told_r R s.adv s.whole s.fresh).mono ?_); clear R r0 r1 c0 c1 c2 c3; rintro e w5 ⟨rfl, R⟩)
      have hz := heap_alloc_new w5 (rvO (told x s.adv s.whole s.fresh))
      replace R := R.later (al w5 (rvO (told x s.adv s.whole s.fresh)))
      generalize w5.alloc (rvO (told x s.adv s.whole s.fresh)) = w6 at *
      obtain ⟨z0, z1⟩ := rv_cs hz
      obtain ⟨r0, r1⟩ := rv_cs R.ps.x
      have g0 := fofr R.ps.x 0; have g1 := fofr R.ps.x 1
      have RF : PO w b X O x (told x s.adv s.whole s.fresh) s ((w6.setCell ⟨X, 0, none⟩ (.int .i64 (st (told x s.adv s.whole s.fresh)))).setCell ⟨X, 1, none⟩ (.int .i64 (wt (told x s.adv s.whole s.fresh)))) := R.set _
      go_upto_region 12 with fail
      clear R z0 z1 hz r0 r1 g0 g1
      generalize (w6.setCell ⟨X, 0, none⟩ (.int .i64 (st (told x s.adv s.whole s.fresh)))).setCell ⟨X, 1, none⟩ (.int .i64 (wt (told x s.adv s.whole s.fresh))) = V at *
      obtain ⟨c0, c1, c2, c3⟩ := op_cs RF.o
      go_upto_region 27 with (go_at_call 12; (with_reducible refine (told_po RF _ _ _).mono ?_); clear RF c0 c1 c2 c3; rintro e w7 ⟨rfl, RF⟩)
      generalize told x s.adv s.whole s.fresh = y at *
      replace RF := RF.drew
      go_region_held3 (fun w' => w'.cell? ⟨X, 0, none⟩ = some (.int .i64 (st y)) ∧ w'.cell? ⟨X, 1, none⟩ = some (.int .i64 (wt y))) (first | with_reducible exact rv_cs RF.ps.x | go_keep)
        (first
          | (go_at_call 13; (with_reducible refine (holds_po RF).mono ?_); clear RF; rintro e w6 ⟨rfl, RF⟩)
          | (go_at_call 14; (with_reducible refine (room_po RF).mono ?_); clear RF; rintro e w6 ⟨rfl, RF⟩)
          | (go_at_call 15; (with_reducible refine (rroom_po RF _).mono ?_); clear RF; rintro e w6 ⟨rfl, RF⟩))
      all_goals
        go_wp2_with fail
        go_roundw
        case rel => exact ⟨k + 1, _, by go_num, by omega, by omega, RF.ps⟩
        case measure => simp [intOf]; omega
end Go.Proofs.Ytjnnbnjbcgdgpaa.fr
