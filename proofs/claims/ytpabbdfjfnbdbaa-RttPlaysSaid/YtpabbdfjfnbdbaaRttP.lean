/-
  Layer 11's law: whatever is measured and doubled.
-/
import Derived.Test.YtpabbdfjfnbdbaaRttL
namespace Go.Proofs.Ytpabbdfjfnbdbaa.rt
open Go.RowKit aid mem
attribute [local go_sem ↓] Go.wp_at_zero Go.wp_at_succ
set_option linter.unusedVariables false

/-- what lies between two rounds: the estimate at B, the document's at X -/
structure PS (w0 : World) (B X : Nat) (e q : Es) (w : World) : Prop where
  es : ES w0 B e w
  x : w.heap[X]? = some (.cells (cellsE q) 30 (0, 0))
  le : w0.heap.size ≤ X
theorem PS.later {w0 w w' : World} {B X : Nat} {e q : Es} (h : PS w0 B X e q w) (hb : Below w.heap.size w w') : PS w0 B X e q w' := ⟨h.es.later hb, (hb.block X (lt_of_block h.x)).trans h.x, h.le⟩
theorem PS.rc {w0 w : World} {B X : Nat} {e q : Es} (h : PS w0 B X e q w) : RC X q w := ⟨cofr h.x 0 _ rfl, cofr h.x 1 _ rfl, cofr h.x 2 _ rfl, cofr h.x 3 _ rfl, cofr h.x 4 _ rfl, cofr h.x 5 _ rfl⟩
theorem PS.all {w0 w : World} {B X : Nat} {e q : Es} (h : PS w0 B X e q w) : w.cell? ⟨X, 0, none⟩ = some (.int .i64 q.least) ∧ w.cell? ⟨X, 1, none⟩ = some (.int .i64 q.most) ∧ w.cell? ⟨X, 2, none⟩ = some (.int .i64 q.srtt) ∧ w.cell? ⟨X, 3, none⟩ = some (.int .i64 q.vary) ∧ w.cell? ⟨X, 4, none⟩ = some (.bool q.has) ∧ w.cell? ⟨X, 5, none⟩ = some (.int .i64 q.dbl) := h.rc
theorem PS.drew {w0 w : World} {B X : Nat} {e q : Es} (h : PS w0 B X e q w) : PS w0 B X e q w.drew := ⟨h.es.drew, h.x, h.le⟩
theorem PS.put6 {w0 w : World} {B X Y : Nat} {e q : Es} (h : PS w0 B X e q w) (hX : X ≠ Y) (hB : B ≠ Y) (hY : w0.heap.size ≤ Y) (u0 u1 u2 u3 u4 u5 : Value) :
    PS w0 B X e q ((((((w.setCell ⟨Y, 0, none⟩ u0).setCell ⟨Y, 1, none⟩ u1).setCell ⟨Y, 2, none⟩ u2).setCell ⟨Y, 3, none⟩ u3).setCell ⟨Y, 4, none⟩ u4).setCell ⟨Y, 5, none⟩ u5) :=
  ⟨⟨h.es.es.keep (kp6 w Y u0 u1 u2 u3 u4 u5) (by simpa using hB), h.es.ok, h.es.below.trans ((kp6 w Y u0 u1 u2 u3 u4 u5).below (by simpa using hY) h.es.below.size), h.es.le⟩, (kp6 w Y u0 u1 u2 u3 u4 u5).heap (by simpa using hX) h.x, h.le⟩
/-- within a round: the clone at C, what was at Y -/
structure RS (w0 : World) (B X C Y : Nat) (e q e0 : Es) (w : World) : Prop where
  ps : PS w0 B X e q w
  c : EsAt w C e0
  y : w.heap[Y]? = some (.cells (cellsE e0) 30 (0, 0))
  ok : Ok e0
  ne : B ≠ C
  ny : X ≠ Y
theorem RS.later {w0 w w' : World} {B X C Y : Nat} {e q e0 : Es} (h : RS w0 B X C Y e q e0 w) (hb : Below w.heap.size w w') : RS w0 B X C Y e q e0 w' := ⟨h.ps.later hb, h.c.later hb, (hb.block Y (lt_of_block h.y)).trans h.y, h.ok, h.ne, h.ny⟩
theorem RS.drew {w0 w : World} {B X C Y : Nat} {e q e0 : Es} (h : RS w0 B X C Y e q e0 w) : RS w0 B X C Y e q e0 w.drew := ⟨h.ps.drew, h.c, h.y, h.ok, h.ne, h.ny⟩
theorem es_ne {w : World} {B X : Nat} {e q : Es} (h : EsAt w B e) (h2 : w.heap[X]? = some (.cells (cellsE q) 30 (0, 0))) : X ≠ B := by
  rintro rfl
  unfold EsAt at h
  rw [h] at h2
  simp at h2
theorem RS.wrote {w0 w w' : World} {B X C Y : Nat} {e q e0 e' : Es} (h : RS w0 B X C Y e q e0 w) (h2 : ES w0 B e' w') (hk : Kept [B] w w') : RS w0 B X C Y e' q e0 w' :=
  ⟨⟨h2, hk.heap (by simpa using es_ne h.ps.es.es h.ps.x) h.ps.x, h.ps.le⟩, h.c.keep hk (by simpa using h.ne.symm), hk.heap (by simpa using es_ne h.ps.es.es h.y) h.y, h.ok, h.ne, h.ny⟩
theorem RS.set {w0 w w' : World} {B X C Y : Nat} {e q e0 q' : Es} (h : RS w0 B X C Y e q e0 w) (hx : w'.heap[X]? = some (.cells (cellsE q') 30 (0, 0))) (hk : Kept [X] w w') : RS w0 B X C Y e q' e0 w' :=
  ⟨⟨⟨h.ps.es.es.keep hk (by simpa using (es_ne h.ps.es.es h.ps.x).symm), h.ps.es.ok, h.ps.es.below.trans (hk.below (by simpa using h.ps.le) h.ps.es.below.size), h.ps.es.le⟩, hx, h.ps.le⟩, h.c.keep hk (by simpa using (es_ne h.c h.ps.x).symm), hk.heap (by simpa using h.ny.symm) h.y, h.ok, h.ne, h.ny⟩

theorem RS.ally {w0 w : World} {B X C Y : Nat} {e q e0 : Es} (h : RS w0 B X C Y e q e0 w) : w.cell? ⟨Y, 0, none⟩ = some (.int .i64 e0.least) ∧ w.cell? ⟨Y, 1, none⟩ = some (.int .i64 e0.most) ∧ w.cell? ⟨Y, 2, none⟩ = some (.int .i64 e0.srtt) ∧ w.cell? ⟨Y, 3, none⟩ = some (.int .i64 e0.vary) ∧ w.cell? ⟨Y, 4, none⟩ = some (.bool e0.has) ∧ w.cell? ⟨Y, 5, none⟩ = some (.int .i64 e0.dbl) :=
  ⟨cofr h.y 0 _ rfl, cofr h.y 1 _ rfl, cofr h.y 2 _ rfl, cofr h.y 3 _ rfl, cofr h.y 4 _ rfl, cofr h.y 5 _ rfl⟩
/-- the document's estimate is stored -/
theorem R6s {w0 w : World} {B X C Y : Nat} {e q e0 : Es} (h : RS w0 B X C Y e q e0 w) (e2 : Es) : RS w0 B X C Y e e2 e0 ((((((w.setCell ⟨X, 0, none⟩ (.int .i64 e2.least)).setCell ⟨X, 1, none⟩ (.int .i64 e2.most)).setCell ⟨X, 2, none⟩ (.int .i64 e2.srtt)).setCell ⟨X, 3, none⟩ (.int .i64 e2.vary)).setCell ⟨X, 4, none⟩ (.bool e2.has)).setCell ⟨X, 5, none⟩ (.int .i64 e2.dbl)) :=
  h.set (put6 h.ps.x _ _ _ _ _ _) (kp6 _ _ _ _ _ _ _ _)
theorem R6 {w0 w : World} {B X C Y : Nat} {e q e0 : Es} (h : RS w0 B X C Y e q e0 w) (e2 : Es) : RS w0 B X C Y e e2 e0 (((((((w.alloc (.cells #[.int .i64 e2.least, .int .i64 e2.most, .int .i64 e2.srtt, .int .i64 e2.vary, .bool e2.has, .int .i64 e2.dbl] 30)).setCell ⟨X, 0, none⟩ (.int .i64 e2.least)).setCell ⟨X, 1, none⟩ (.int .i64 e2.most)).setCell ⟨X, 2, none⟩ (.int .i64 e2.srtt)).setCell ⟨X, 3, none⟩ (.int .i64 e2.vary)).setCell ⟨X, 4, none⟩ (.bool e2.has)).setCell ⟨X, 5, none⟩ (.int .i64 e2.dbl)) :=
  R6s (h.later ((Below.refl _ _).alloc (Nat.le_refl _) _)) e2
set_option maxRecDepth 100000 in
set_option maxHeartbeats 4000000 in
theorem walk_RttPlays (w : World) (l : Int) (hl : -9223372036854775808 ≤ l ∧ l ≤ 9223372036854775807) (m : Int) (hm : -9223372036854775808 ≤ m ∧ m ≤ 9223372036854775807) (a : Option Addr) (n cap : Nat) (ops : List OpV) (hops : OpA w a n cap ops) :
    Calls Try.prog 3 #[.int .i64 l, .int .i64 m, .slice a n cap] w fun x w' => x = .returned (.bool true) ∧ Below w.heap.size w w' := by
  have hb := Below.refl w.heap.size w
  have hle := hops.le
  have hmost := hops.most
  unfold maxLen at hmost
  have HC := Lib.hid hops.cells
  clear hops
  by_cases hlm : 1 ≤ l ∧ l ≤ m ∧ m ≤ 68719476736
  case neg =>
    have HN := Lib.hid (fun W => new_bad (w := W) hlm)
    have HD := Lib.hid (show decide (1 ≤ l ∧ l ≤ m ∧ m ≤ 68719476736) = false from by simpa using hlm)
    clear hlm
    go_enter Try.func3, Try.ntmps3
    go_wp2_with (first
      | (go_at_call 7; (with_reducible refine (known_b hb).mono ?_); clear hb; rintro e w1 ⟨rfl, hb⟩)
      | (go_at_call 9; (with_reducible refine (right_any _ _ _).mono ?_); rintro e w1 ⟨rfl, rfl⟩; rw [HD.out])
      | (go_at_call 8; (with_reducible refine (HN.out _).mono ?_); rintro e w2 ⟨rfl, rfl⟩))
    go_ret
    exact ⟨rfl, hb⟩
  case pos =>
    have HNE := Lib.hid hlm
    have HD := Lib.hid (show decide (1 ≤ l ∧ l ≤ m ∧ m ≤ 68719476736) = true from by simpa using hlm)
    go_enter Try.func3, Try.ntmps3
    go_wp2_with (first
      | (go_at_call 7; (with_reducible refine (known_b hb).mono ?_); clear hb; rintro e w1 ⟨rfl, hb⟩)
      | (go_at_call 9; (with_reducible refine (right_any _ _ _).mono ?_); rintro e w1 ⟨rfl, rfl⟩; rw [HD.out])
      | (go_at_call 8; (with_reducible refine (new_es hb HNE.out).mono ?_); rintro e w2 ⟨b, rfl, S⟩))
    obtain ⟨hl1, hlm1, hm1⟩ := hlm
    have P0 : PS w b w2.heap.size ⟨l, m, 0, 0, false, 0⟩ ⟨l, m, 0, 0, false, 0⟩ (w2.alloc (.cells (cellsE ⟨l, m, 0, 0, false, 0⟩) 30)) := ⟨S.later ((Below.refl _ _).alloc (Nat.le_refl _) _), heap_alloc_new w2 _, S.below.size⟩
    clear S hb
    generalize w2.heap.size = X at *
    go_loopw [10] (fun i wr => ∃ (k : Nat) (e : Es), i = .int .i64 k ∧ k ≤ n ∧ k ≤ 300 ∧ PS w b X e e wr) (fun i _ => 300 - (intOf i).toNat)
    case atStart => exact ⟨0, _, rfl, by omega, by omega, P0⟩
    case round =>
      clear P0
      obtain ⟨k, e, rfl, hk, hk3, S⟩ := hrel
      by_cases hlt : k < n ∧ k < 300
      · obtain ⟨h1, h2⟩ := hlt
        obtain ⟨B, off, rfl, hc⟩ := HC.out (by omega)
        obtain ⟨c0, c1⟩ := hc k h1
        have HLT := Lib.hid (show B < w.heap.size from World.block_lt_of_cell? w _ c1)
        have HC0 := Lib.hid (fun W (h : Below w.heap.size w W) => (h.cell (p := ⟨B, off + k * 2, none⟩) (World.block_lt_of_cell? w _ c0)).trans c0)
        have HC1 := Lib.hid (fun W (h : Below w.heap.size w W) => (h.cell (p := ⟨B, off + k * 2 + 1, none⟩) (World.block_lt_of_cell? w _ c1)).trans c1)
        clear hc c0 c1
        generalize ops.getD k default = q at *
        obtain ⟨back, r⟩ := q
        dsimp only at HC0 HC1
        have c0 := HC0.out _ S.es.below
        have c1 := HC1.out _ S.es.below
        go_wp2_with fail
        have HSO := Lib.hid S.es.ok
        have HBL := Lib.hid S.es.es.lt
        have HXY := Lib.hid (show X ≠ wr.heap.size ∧ b ≠ wr.heap.size ∧ w.heap.size ≤ wr.heap.size from ⟨by have := lt_of_block S.x; omega, by have := S.es.es.lt; omega, S.es.below.size⟩)
        go_region_held3 (fun w' => w'.cell? ⟨X, 0, none⟩ = some (.int .i64 e.least) ∧ w'.cell? ⟨X, 1, none⟩ = some (.int .i64 e.most) ∧ w'.cell? ⟨X, 2, none⟩ = some (.int .i64 e.srtt) ∧ w'.cell? ⟨X, 3, none⟩ = some (.int .i64 e.vary) ∧ w'.cell? ⟨X, 4, none⟩ = some (.bool e.has) ∧ w'.cell? ⟨X, 5, none⟩ = some (.int .i64 e.dbl)) (first | with_reducible exact S.all | with_reducible exact S.drew.all | with_reducible exact (S.put6 HXY.out.1 HXY.out.2.1 HXY.out.2.2 _ _ _ _ _ _).all | with_reducible exact (S.later ((Below.refl _ _).alloc (Nat.le_refl _) _)).all | with_reducible exact (S.later ((Below.refl _ _).alloc (Nat.le_refl _) _)).drew.all | go_keep)
          ((go_at_call 10; first
            | (replace S := S.drew; (with_reducible refine (clone_any S.es.es).mono ?_); rintro x w1 ⟨rfl, hcl, hb⟩; replace S := S.later hb; clear hb)
            | (have hy := heap_alloc_new wr (.cells #[.int .i64 0, .int .i64 0, .int .i64 0, .int .i64 0, .bool false, .int .i64 0] 30); replace S := (S.later ((Below.refl _ _).alloc (Nat.le_refl _) (.cells #[.int .i64 0, .int .i64 0, .int .i64 0, .int .i64 0, .bool false, .int .i64 0] 30))).drew; (with_reducible refine (clone_any S.es.es).mono ?_); rintro x w1 ⟨rfl, hcl, hb⟩; replace S := S.later hb; replace hy := (hb.block wr.heap.size (by simp)).trans hy; have g0 := fofr hy 0; have g1 := fofr hy 1; have g2 := fofr hy 2; have g3 := fofr hy 3; have g4 := fofr hy 4; have g5 := fofr hy 5; have d0 := cofr hy 0 _ rfl; have d1 := cofr hy 1 _ rfl; have d2 := cofr hy 2 _ rfl; have d3 := cofr hy 3 _ rfl; have d4 := cofr hy 4 _ rfl; have d5 := cofr hy 5 _ rfl; clear hb)))
        case' refine_2.refine_3.refine_3.refine_1.refine_2.refine_1.refine_2.refine_3.refine_1.refine_2 =>
          have hal : Below w1.heap.size w1 (w1.alloc (.cells (cellsE e) 30)) := (Below.refl _ _).alloc (Nat.le_refl _) _
          have R : RS w b X wr.heap.size w1.heap.size e e e (w1.alloc (.cells (cellsE e) 30)) :=
            ⟨S.later hal, EsAt.later hcl hal, heap_alloc_new w1 _, HSO.out, HXY.out.2.1, Nat.ne_of_lt (lt_of_block S.x)⟩
          clear hal S hcl
          generalize hW : w1.alloc (.cells (cellsE e) 30) = W at *
          clear hW
          generalize w1.heap.size = Y at *
          generalize wr.heap.size = C at *
        case' refine_2.refine_3.refine_3.refine_2.refine_1.refine_2.refine_1.refine_2.refine_3.refine_1.refine_2 =>
          have hk := kp6 w1 wr.heap.size (.int .i64 e.least) (.int .i64 e.most) (.int .i64 e.srtt) (.int .i64 e.vary) (.bool e.has) (.int .i64 e.dbl)
          have hyy := put6 hy (.int .i64 e.least) (.int .i64 e.most) (.int .i64 e.srtt) (.int .i64 e.vary) (.bool e.has) (.int .i64 e.dbl)
          have R : RS w b X (wr.heap.size + 1) wr.heap.size e e e _ :=
            ⟨S.put6 HXY.out.1 HXY.out.2.1 HXY.out.2.2 (.int .i64 e.least) (.int .i64 e.most) (.int .i64 e.srtt) (.int .i64 e.vary) (.bool e.has) (.int .i64 e.dbl), EsAt.keep (by simpa using hcl) hk (by simp), hyy, HSO.out, by have := HBL.out; omega, HXY.out.1⟩
          clear hk hyy S hcl hy g0 g1 g2 g3 g4 g5 d0 d1 d2 d3 d4 d5
          generalize hW : ((((((w1.setCell ⟨wr.heap.size, 0, none⟩ (.int .i64 e.least)).setCell ⟨wr.heap.size, 1, none⟩ (.int .i64 e.most)).setCell ⟨wr.heap.size, 2, none⟩ (.int .i64 e.srtt)).setCell ⟨wr.heap.size, 3, none⟩ (.int .i64 e.vary)).setCell ⟨wr.heap.size, 4, none⟩ (.bool e.has)).setCell ⟨wr.heap.size, 5, none⟩ (.int .i64 e.dbl)) = W at *
          clear hW
          generalize wr.heap.size + 1 = C at *
          generalize wr.heap.size = Y at *
        all_goals
          clear c0 c1 HBL HXY
          have c0 := HC0.out _ R.ps.es.below
          have c1 := HC1.out _ R.ps.es.below
          cases back with
          | true =>
            obtain ⟨x0, x1, x2, x3, x4, x5⟩ := R.ps.all
            have HSB := Lib.hid (fun W => rbackoff_any (w := W) HSO.out)
            have HBE := Lib.hid (fun W (h : ES w b e W) => backoff_es h)
            have HEM := Lib.hid (fun (h : Ok e) => h.bck)
            generalize hq : bck e = e2 at *
            generalize bckB e = bb at *
            clear hq
            cases bb
            all_goals
              go_wp2_with (first
                | (go_at_call 11; (with_reducible refine (HSB.out _).mono ?_); rintro x w5 ⟨rfl, hb⟩; have R5 := R.later hb; clear R hb; clear x0 x1 x2 x3 x4 x5; have HR5 := Lib.hid R5; have R5a := R5.later ((Below.refl w5.heap.size w5).alloc (Nat.le_refl _) (.cells #[.int .i64 e2.least, .int .i64 e2.most, .int .i64 e2.srtt, .int .i64 e2.vary, .bool e2.has, .int .i64 e2.dbl] 30)); have g0 := fofr R5a.ps.x 0; have g1 := fofr R5a.ps.x 1; have g2 := fofr R5a.ps.x 2; have g3 := fofr R5a.ps.x 3; have g4 := fofr R5a.ps.x 4; have g5 := fofr R5a.ps.x 5; obtain ⟨x0, x1, x2, x3, x4, x5⟩ := R5a.ps.all; clear R5 R5a)
                | (go_at_call 12; (with_reducible refine (HBE.out _ (R6 HR5.out e2).ps.es).mono ?_); rintro x w7 ⟨rfl, S7, hk7⟩; have R7 := (R6 HR5.out e2).wrote S7 hk7; clear HR5 S7 hk7 g0 g1 g2 g3 g4 g5 x0 x1 x2 x3 x4 x5; obtain ⟨x0, x1, x2, x3, x4, x5⟩ := R7.ps.all)
                | (go_at_call 15; (with_reducible refine (equal_any R7.ps.es.es R7.ps.es.ok).mono ?_); rintro x w8 ⟨rfl, hb8⟩; have R8 := R7.later hb8; clear R7 hb8; clear x0 x1 x2 x3 x4 x5; obtain ⟨y0, y1, y2, y3, y4, y5⟩ := R8.ally)
                | (go_at_call 15; (with_reducible refine (equal_any R8.c R8.ok).mono ?_); rintro x w9 ⟨rfl, hb9⟩; have R9 := R8.later hb9; clear R8 hb9))
              go_roundw
              case rel => exact ⟨k + 1, e2, by go_num, by omega, by omega, R9.ps⟩
              case measure => simp [intOf]; omega
          | false =>
            obtain ⟨x0, x1, x2, x3, x4, x5⟩ := R.ps.all
            by_cases hr : 0 ≤ r ∧ r ≤ 68719476736
            · have HSB := Lib.hid (fun W => rsample_any (w := W) HSO.out hr)
              have HBE := Lib.hid (fun W (h : ES w b e W) => sample_es h hr)
              generalize hq : smp e r = e2 at *
              clear hq
              obtain ⟨hr0, hr1⟩ := hr
              have g0 := fofr R.ps.x 0; have g1 := fofr R.ps.x 1; have g2 := fofr R.ps.x 2; have g3 := fofr R.ps.x 3; have g4 := fofr R.ps.x 4; have g5 := fofr R.ps.x 5
              go_wp2_with (first
              | (go_at_call 14; (with_reducible refine (HSB.out _).mono ?_); rintro x w5 ⟨rfl, hb⟩; have R5 := R.later hb; clear R hb; clear x0 x1 x2 x3 x4 x5 g0 g1 g2 g3 g4 g5; have HR5 := Lib.hid R5; have g0 := fofr R5.ps.x 0; have g1 := fofr R5.ps.x 1; have g2 := fofr R5.ps.x 2; have g3 := fofr R5.ps.x 3; have g4 := fofr R5.ps.x 4; have g5 := fofr R5.ps.x 5; obtain ⟨x0, x1, x2, x3, x4, x5⟩ := R5.ps.all; clear R5)
              | (go_at_call 13; (with_reducible refine (HBE.out _ (R6s HR5.out e2).ps.es).mono ?_); rintro x w7 ⟨rfl, S7, hk7⟩; have R7 := (R6s HR5.out e2).wrote S7 hk7; clear HR5 S7 hk7 g0 g1 g2 g3 g4 g5 x0 x1 x2 x3 x4 x5; obtain ⟨x0, x1, x2, x3, x4, x5⟩ := R7.ps.all)
              | (go_at_call 15; (with_reducible refine (equal_any R7.ps.es.es R7.ps.es.ok).mono ?_); rintro x w8 ⟨rfl, hb8⟩; have R8 := R7.later hb8; clear R7 hb8; clear x0 x1 x2 x3 x4 x5; obtain ⟨y0, y1, y2, y3, y4, y5⟩ := R8.ally)
              | (go_at_call 15; (with_reducible refine (equal_any R8.c R8.ok).mono ?_); rintro x w9 ⟨rfl, hb9⟩; have R9 := R8.later hb9; clear R8 hb9))
              go_roundw
              case rel => exact ⟨k + 1, e2, by go_num, by omega, by omega, R9.ps⟩
              case measure => simp [intOf]; omega
            · have HBE := Lib.hid (fun W => sample_bad (w := W) (B := b) hr)
              by_cases hr0 : r < 0
              · go_wp2_with (first
              | (go_at_call 13; (with_reducible refine (HBE.out _).mono ?_); rintro x w7 ⟨rfl, rfl⟩; have R7 := R; clear R)
              | (go_at_call 15; (with_reducible refine (equal_any R7.ps.es.es R7.ps.es.ok).mono ?_); rintro x w8 ⟨rfl, hb8⟩; have R8 := R7.later hb8; clear R7 hb8; clear x0 x1 x2 x3 x4 x5; obtain ⟨y0, y1, y2, y3, y4, y5⟩ := R8.ally)
              | (go_at_call 15; (with_reducible refine (equal_any R8.c R8.ok).mono ?_); rintro x w9 ⟨rfl, hb9⟩; have R9 := R8.later hb9; clear R8 hb9))
                go_roundw
                case rel => exact ⟨k + 1, e, by go_num, by omega, by omega, R9.ps⟩
                case measure => simp [intOf]; omega
              · have hr1 : 68719476736 < r := by omega
                go_wp2_with (first
              | (go_at_call 13; (with_reducible refine (HBE.out _).mono ?_); rintro x w7 ⟨rfl, rfl⟩; have R7 := R; clear R)
              | (go_at_call 15; (with_reducible refine (equal_any R7.ps.es.es R7.ps.es.ok).mono ?_); rintro x w8 ⟨rfl, hb8⟩; have R8 := R7.later hb8; clear R7 hb8; clear x0 x1 x2 x3 x4 x5; obtain ⟨y0, y1, y2, y3, y4, y5⟩ := R8.ally)
              | (go_at_call 15; (with_reducible refine (equal_any R8.c R8.ok).mono ?_); rintro x w9 ⟨rfl, hb9⟩; have R9 := R8.later hb9; clear R8 hb9))
                go_roundw
                case rel => exact ⟨k + 1, e, by go_num, by omega, by omega, R9.ps⟩
                case measure => simp [intOf]; omega
      · by_cases h1 : k < n
        · have h2 : ¬ k < 300 := by omega
          go_wp2_with (go_at_call 7; (with_reducible refine (known_b S.es.below).mono ?_); clear S; rintro e w1 ⟨rfl, S⟩)
          go_ret
          exact ⟨rfl, S⟩
        · go_wp2_with (go_at_call 7; (with_reducible refine (known_b S.es.below).mono ?_); clear S; rintro e w1 ⟨rfl, S⟩)
          go_ret
          exact ⟨rfl, S⟩
end Go.Proofs.Ytpabbdfjfnbdbaa.rt
