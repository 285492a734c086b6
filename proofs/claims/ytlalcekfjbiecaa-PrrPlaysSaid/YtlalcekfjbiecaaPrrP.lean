/-
  Layer 18's law: whatever comes and goes (written by gen_prrp.py).
-/
import Derived.Test.YtlalcekfjbiecaaPrrD
namespace Go.Proofs.Ytlalcekfjbiecaa.pr
open Go.RowKit aid mem
attribute [local go_sem ↓] Go.wp_at_zero Go.wp_at_succ
set_option linter.unusedVariables false
set_option linter.unusedSimpArgs false

structure WS (w0 : World) (B : Nat) (x : Pr) (w : World) : Prop where
  s : PrAt w B x
  ok : Ok x
  below : Below w0.heap.size w0 w
  le : w0.heap.size ≤ B
theorem WS.later {w0 w w' : World} {B : Nat} {x : Pr} (h : WS w0 B x w) (hb : Below w.heap.size w w') : WS w0 B x w' := ⟨h.s.later hb, h.ok, h.below.trans (hb.mono h.below.size), h.le⟩
theorem WS.wrote {w0 w w' : World} {B : Nat} {x y : Pr} (h : WS w0 B x w) (h2 : PrAt w' B y) (ho : Ok y) (hk : Kept [B] w w') : WS w0 B y w' :=
  ⟨h2, ho, h.below.trans (hk.below (by simpa using h.le) h.below.size), h.le⟩
theorem new_ws {w0 w : World} (hB : Below w0.heap.size w0 w) {m f t : Int} (h : newB m f t = true) : Calls Try.prog 8 #[.int .i64 m, .int .i64 f, .int .i64 t] w
    fun e w' => ∃ B, e = .returned (.tuple #[.pointer (some ⟨B, 0, none⟩), .int .i64 0]) ∧ WS w0 B ⟨m, t, max f t, 0, 0, 0, false⟩ w' :=
  (new_ok_any h).mono fun e w' ⟨h1, h2, h3⟩ => ⟨_, h1, h2, (inv_new (newB_ok h)).ok, hB.trans (h3.mono hB.size), hB.size⟩
/-- what lies between two rounds: the episode at B, the document's at X -/
structure TS (w0 : World) (B X : Nat) (x y : Pr) (w : World) : Prop where
  s : WS w0 B x w
  x : w.heap[X]? = some (prO y)
  le : w0.heap.size ≤ X
theorem TS.later {w0 w w' : World} {B X : Nat} {x y : Pr} (h : TS w0 B X x y w) (hb : Below w.heap.size w w') : TS w0 B X x y w' := ⟨h.s.later hb, (hb.block X (lt_of_block h.x)).trans h.x, h.le⟩
theorem WS.drew {w0 w : World} {B : Nat} {x : Pr} (h : WS w0 B x w) : WS w0 B x w.drew := ⟨h.s, h.ok, h.below.drew, h.le⟩
theorem TS.drew {w0 w : World} {B X : Nat} {x y : Pr} (h : TS w0 B X x y w) : TS w0 B X x y w.drew := ⟨h.s.drew, h.x, h.le⟩
theorem TS.st {w0 w : World} {B X : Nat} {x y : Pr} (h : TS w0 B X x y w) : w.cell? ⟨X, 0, none⟩ = some (.int .i64 y.mss) ∧ w.cell? ⟨X, 1, none⟩ = some (.int .i64 y.thresh) ∧ w.cell? ⟨X, 2, none⟩ = some (.int .i64 y.whole) ∧ w.cell? ⟨X, 3, none⟩ = some (.int .i64 y.del) ∧ w.cell? ⟨X, 4, none⟩ = some (.int .i64 y.out) ∧ w.cell? ⟨X, 5, none⟩ = some (.int .i64 y.left) ∧ w.cell? ⟨X, 6, none⟩ = some (.bool y.first) := st_of h.x
/-- an object of the program's and a box are not one -/
theorem ws_ne {w : World} {B X : Nat} {x y : Pr} (h : PrAt w B x) (h2 : w.heap[X]? = some (prO y)) : X ≠ B := by
  rintro rfl
  unfold PrAt at h
  rw [h] at h2
  simp at h2
/-- a box elsewhere is written -/
theorem TS.put5 {w0 w : World} {B X Y : Nat} {x y : Pr} (h : TS w0 B X x y w) (z : Pr) (hX : X ≠ Y) (hB : B ≠ Y) (hY : w0.heap.size ≤ Y) : TS w0 B X x y (putA Y z w) :=
  ⟨⟨h.s.s.keep (putA_kept Y z w) (by simpa using hB), h.s.ok, h.s.below.trans ((putA_kept Y z w).below (by simpa using hY) h.s.below.size), h.s.le⟩, (putA_kept Y z w).heap (by simpa using hX) h.x, h.le⟩
/-- within a round: the clone at C, what was at Y -/
structure RS (w0 : World) (B X C Y : Nat) (x y x0 : Pr) (w : World) : Prop where
  ps : TS w0 B X x y w
  c : PrAt w C x0
  y : w.heap[Y]? = some (prO x0)
  ne : B ≠ C
  ny : X ≠ Y
  ly : w0.heap.size ≤ Y
section
variable {w0 w w' : World} {B X C Y : Nat} {x y x0 x' y' : Pr}
theorem RS.later (h : RS w0 B X C Y x y x0 w) (hb : Below w.heap.size w w') : RS w0 B X C Y x y x0 w' := ⟨h.ps.later hb, h.c.later hb, (hb.block Y (lt_of_block h.y)).trans h.y, h.ne, h.ny, h.ly⟩
theorem RS.drew (h : RS w0 B X C Y x y x0 w) : RS w0 B X C Y x y x0 w.drew := ⟨h.ps.drew, h.c, h.y, h.ne, h.ny, h.ly⟩
theorem RS.drewN (h : RS w0 B X C Y x y x0 w) (n : Nat) : RS w0 B X C Y x y x0 (w.drewN n) := h.later ⟨rfl, rfl, rfl, Nat.le_refl _, fun _ _ => rfl⟩
theorem RS.wrote (h : RS w0 B X C Y x y x0 w) (h2 : PrAt w' B x') (ho : Ok x') (hk : Kept [B] w w') : RS w0 B X C Y x' y x0 w' :=
  ⟨⟨h.ps.s.wrote h2 ho hk, hk.heap (by simpa using ws_ne h.ps.s.s h.ps.x) h.ps.x, h.ps.le⟩, h.c.keep hk (by simpa using h.ne.symm), hk.heap (by simpa using ws_ne h.ps.s.s h.y) h.y, h.ne, h.ny, h.ly⟩
theorem RS.set (h : RS w0 B X C Y x y x0 w) (y' : Pr) : RS w0 B X C Y x y' x0 (putA X y' w) := by
  have hk := putA_kept X y' w
  exact ⟨⟨⟨h.ps.s.s.keep hk (by simpa using (ws_ne h.ps.s.s h.ps.x).symm), h.ps.s.ok, h.ps.s.below.trans (hk.below (by simpa using h.ps.le) h.ps.s.below.size), h.ps.s.le⟩, putA_at h.ps.x y', h.ps.le⟩, h.c.keep hk (by simpa using (ws_ne h.c h.ps.x).symm), hk.heap (by simpa using h.ny.symm) h.y, h.ne, h.ny, h.ly⟩
/-- a new box is written -/
theorem RS.put5 {Z : Nat} (h : RS w0 B X C Y x y x0 w) (z : Pr) (h0 : B ≠ Z) (h1 : X ≠ Z) (h2 : C ≠ Z) (h3 : Y ≠ Z) (h4 : w0.heap.size ≤ Z) : RS w0 B X C Y x y x0 (putA Z z w) :=
  ⟨h.ps.put5 z h1 h0 h4, h.c.keep (putA_kept Z z w) (by simpa using h2), (putA_kept Z z w).heap (by simpa using h3) h.y, h.ne, h.ny, h.ly⟩
end
set_option maxRecDepth 100000 in
set_option maxHeartbeats 4000000 in
theorem walk_PrrPlays (w : World) (m : Int) (hm : -9223372036854775808 ≤ m ∧ m ≤ 9223372036854775807) (s0 : Int) (hs : -9223372036854775808 ≤ s0 ∧ s0 ≤ 9223372036854775807) (l : Int) (hl : -9223372036854775808 ≤ l ∧ l ≤ 9223372036854775807)
    (a : Option Addr) (n cap : Nat) (ops : List OpV) (hops : OpA w a n cap ops) :
    Calls Try.prog 3 #[.int .i64 m, .int .i64 s0, .int .i64 l, .slice a n cap] w fun x w' => x = .returned (.bool true) ∧ Below w.heap.size w w' := by
  have hb := Below.refl w.heap.size w
  have hle := hops.le
  have hmost := hops.most
  unfold maxLen at hmost
  have HC := Lib.hid hops.cells
  clear hops hm hs hl
  cases hN : newB m s0 l with
  | false =>
    have HN := Lib.hid (fun W => new_bad (w := W) hN)
    have HD := Lib.hid hN
    clear hN
    go_enter Try.func3, Try.ntmps3
    go_wp2_with (first
      | (go_at_call 7; (with_reducible refine (known_b hb).mono ?_); clear hb; rintro e w1 ⟨rfl, hb⟩)
      | (go_at_call 9; (with_reducible refine (right_any _ _ _ _).mono ?_); rintro e w1 ⟨rfl, rfl⟩; rw [HD.out])
      | (go_at_call 8; (with_reducible refine (HN.out _).mono ?_); rintro e w2 ⟨rfl, rfl⟩))
    go_ret
    exact ⟨rfl, hb⟩
  | true =>
    have HN := Lib.hid hN
    clear hN
    go_enter Try.func3, Try.ntmps3
    go_wp2_with (first
      | (go_at_call 7; (with_reducible refine (known_b hb).mono ?_); clear hb; rintro e w1 ⟨rfl, hb⟩)
      | (go_at_call 9; (with_reducible refine (right_any _ _ _ _).mono ?_); rintro e w1 ⟨rfl, rfl⟩; rw [HN.out])
      | (go_at_call 10; (with_reducible refine (rnew_any _ _ _ _).mono ?_); rintro e w1 ⟨rfl, h2⟩; replace S := S.later h2; clear h2)
      | (go_at_call 8; (with_reducible refine (new_ws hb HN.out).mono ?_); rintro e w2 ⟨b, rfl, S⟩))
    have P0 : TS w b w1.heap.size ⟨m, l, max s0 l, 0, 0, 0, false⟩ ⟨m, l, max s0 l, 0, 0, 0, false⟩ (w1.alloc (prO ⟨m, l, max s0 l, 0, 0, 0, false⟩)) := ⟨S.later (al _ _), heap_alloc_new w1 _, S.below.size⟩
    clear S hb
    generalize w1.heap.size = X at *
    go_loopw [12] (fun i wr => ∃ (k : Nat) (x : Pr), i = .int .i64 k ∧ k ≤ n ∧ k ≤ 300 ∧ Hid (Inv k x) ∧ TS w b X x x wr) (fun i _ => 300 - (intOf i).toNat)
    case atStart => exact ⟨0, _, rfl, by omega, by omega, Lib.hid (inv_new (newB_ok HN.out)), P0⟩
    case round =>
      clear P0
      obtain ⟨k, x, rfl, hk, hk3, HX, S⟩ := hrel
      by_cases hlt : k < n ∧ k < 300
      case neg =>
        by_cases h1 : k < n
        · have h2 : ¬ k < 300 := by omega
          go_wp2_with (go_at_call 7; (with_reducible refine (known_b S.s.below).mono ?_); clear S; rintro e w1 ⟨rfl, S⟩)
          go_ret
          exact ⟨rfl, S⟩
        · go_wp2_with (go_at_call 7; (with_reducible refine (known_b S.s.below).mono ?_); clear S; rintro e w1 ⟨rfl, S⟩)
          go_ret
          exact ⟨rfl, S⟩
      case pos =>
      obtain ⟨h1, h2⟩ := hlt
      obtain ⟨Bo, off, rfl, hc⟩ := HC.out (by omega)
      obtain ⟨c0, c1, c2, hok⟩ := hc k h1
      have HLT := Lib.hid (show Bo < w.heap.size from World.block_lt_of_cell? w _ c1)
      have HOP := Lib.hid (fun W (h : Below w.heap.size w W) => And.intro ((h.cell (p := ⟨Bo, off + k * 3, none⟩) (World.block_lt_of_cell? w _ c0)).trans c0) (And.intro ((h.cell (p := ⟨Bo, off + k * 3 + 1, none⟩) (World.block_lt_of_cell? w _ c1)).trans c1) ((h.cell (p := ⟨Bo, off + k * 3 + 2, none⟩) (World.block_lt_of_cell? w _ c2)).trans c2)))
      have HOK := Lib.hid hok
      clear hc c0 c1 c2 hok
      generalize ops.getD k default = s at *
      go_upto_region 12 with fail
      go_cut [13, 14] (fun s13 s14 wx => ∃ C Y, s13 = .pointer (some ⟨C, 0, none⟩) ∧ s14 = .pointer (some ⟨Y, 0, none⟩) ∧ Hid (RS w b X C Y x x x wx))
      case first =>
        have HXY := Lib.hid (show X ≠ wr.heap.size ∧ b ≠ wr.heap.size ∧ w.heap.size ≤ wr.heap.size ∧ b < wr.heap.size from ⟨by have := lt_of_block S.x; omega, by have := S.s.s.lt; omega, S.s.below.size, S.s.s.lt⟩)
        go_wp2_with fail
        go_region_held3 (fun w' => w'.cell? ⟨X, 0, none⟩ = some (.int .i64 x.mss) ∧ w'.cell? ⟨X, 1, none⟩ = some (.int .i64 x.thresh) ∧ w'.cell? ⟨X, 2, none⟩ = some (.int .i64 x.whole) ∧ w'.cell? ⟨X, 3, none⟩ = some (.int .i64 x.del) ∧ w'.cell? ⟨X, 4, none⟩ = some (.int .i64 x.out) ∧ w'.cell? ⟨X, 5, none⟩ = some (.int .i64 x.left) ∧ w'.cell? ⟨X, 6, none⟩ = some (.bool x.first)) (first | with_reducible exact S.st | with_reducible exact S.drew.st | with_reducible exact (S.put5 x HXY.out.1 HXY.out.2.1 HXY.out.2.2.1).st | with_reducible exact (S.later (al _ _)).st | with_reducible exact (S.later (al _ _)).drew.st | go_keep)
          ((go_at_call 11; first
        | (replace S := S.drew; (with_reducible refine (clone_any S.s.s).mono ?_); rintro e w1 ⟨rfl, hcl, hb⟩; replace S := S.later hb; clear hb)
        | (have hy := heap_alloc_new wr (.cells #[.int .i64 0, .int .i64 0, .int .i64 0, .int .i64 0, .int .i64 0, .int .i64 0, .bool false] 30); replace S := (S.later (al wr (.cells #[.int .i64 0, .int .i64 0, .int .i64 0, .int .i64 0, .int .i64 0, .int .i64 0, .bool false] 30))).drew; (with_reducible refine (clone_any S.s.s).mono ?_); rintro e w1 ⟨rfl, hcl, hb⟩; replace S := S.later hb; replace hy := (hb.block wr.heap.size (by simp)).trans hy; have g0 := fofr hy 0; have g1 := fofr hy 1; have g2 := fofr hy 2; have g3 := fofr hy 3; have g4 := fofr hy 4; have g5 := fofr hy 5; have g6 := fofr hy 6; have d0 := cofr hy 0 _ rfl; have d1 := cofr hy 1 _ rfl; have d2 := cofr hy 2 _ rfl; have d3 := cofr hy 3 _ rfl; have d4 := cofr hy 4 _ rfl; have d5 := cofr hy 5 _ rfl; have d6 := cofr hy 6 _ rfl; clear hb)))
        all_goals
          first
            | (have R : RS w b X wr.heap.size w1.heap.size x x x (w1.alloc (prO x)) := ⟨S.later (al _ _), PrAt.later hcl (al _ _), heap_alloc_new w1 _, HXY.out.2.1, Nat.ne_of_lt (lt_of_block S.x), S.s.below.size⟩
               clear S hcl
               generalize hW : w1.alloc (prO x) = W at *
               clear hW
               generalize w1.heap.size = Y at *
               generalize wr.heap.size = C at *)
            | (have R : RS w b X (wr.heap.size + 1) wr.heap.size x x x (putA wr.heap.size x w1) :=
                 ⟨S.put5 x HXY.out.1 HXY.out.2.1 HXY.out.2.2.1, PrAt.keep (by simpa using hcl) (putA_kept _ x w1) (by simp), putA_at (z := zero) hy x, by have := HXY.out.2.2.2; omega, HXY.out.1, HXY.out.2.2.1⟩
               clear S hcl hy g0 g1 g2 g3 g4 g5 g6 d0 d1 d2 d3 d4 d5 d6
               unfold putA at R
               generalize hW : ((((((w1.setCell ⟨wr.heap.size, 0, none⟩ (.int .i64 x.mss)).setCell ⟨wr.heap.size, 1, none⟩ (.int .i64 x.thresh)).setCell ⟨wr.heap.size, 2, none⟩ (.int .i64 x.whole)).setCell ⟨wr.heap.size, 3, none⟩ (.int .i64 x.del)).setCell ⟨wr.heap.size, 4, none⟩ (.int .i64 x.out)).setCell ⟨wr.heap.size, 5, none⟩ (.int .i64 x.left)).setCell ⟨wr.heap.size, 6, none⟩ (.bool x.first) = W at *
               clear hW
               generalize wr.heap.size + 1 = C at *
               generalize wr.heap.size = Y at *)
        all_goals
          have HRR := Lib.hid R
          clear R HXY
          go_wp2_with fail
          go_meet
          exact ⟨_, _, rfl, rfl, HRR⟩
      case rest =>
        obtain ⟨C, Y, rfl, rfl, HR⟩ := hcut
        have R := HR.out
        clear HR S
        generalize wc = W at *
        have HXY := Lib.hid (show b ≠ W.heap.size ∧ X ≠ W.heap.size ∧ C ≠ W.heap.size ∧ Y ≠ W.heap.size ∧ w.heap.size ≤ W.heap.size from ⟨by have := R.ps.s.s.lt; omega, by have := lt_of_block R.ps.x; omega, by have := R.c.lt; omega, by have := lt_of_block R.y; omega, R.ps.s.below.size⟩)
        have HOS := Lib.hid (inv_stp HX.out (by omega) s.kind s.a s.b).ok
        have HD := Lib.hid (fun V (h : RS w b X C Y x x x V) => does_any h.ps.s.s h.ps.s.ok HOK.out)
        have HX2 := Lib.hid (inv_stp HX.out (by omega) s.kind s.a s.b)
        unfold DoesP at HD
        clear HX
        generalize stp x s.kind s.a s.b = y at *
        have HSO : Hid (∀ V x', RS w b X C Y x' x x V → (V.cell? ⟨X, 0, none⟩ = some (.int .i64 x.mss) ∧ V.cell? ⟨X, 1, none⟩ = some (.int .i64 x.thresh) ∧ V.cell? ⟨X, 2, none⟩ = some (.int .i64 x.whole) ∧ V.cell? ⟨X, 3, none⟩ = some (.int .i64 x.del) ∧ V.cell? ⟨X, 4, none⟩ = some (.int .i64 x.out) ∧ V.cell? ⟨X, 5, none⟩ = some (.int .i64 x.left) ∧ V.cell? ⟨X, 6, none⟩ = some (.bool x.first) ∧ V.cell? ⟨Bo, off + k * 3, none⟩ = some (.int .u8 s.kind) ∧ V.cell? ⟨Bo, off + k * 3 + 1, none⟩ = some (.int .i64 s.a) ∧ V.cell? ⟨Bo, off + k * 3 + 2, none⟩ = some (.int .i64 s.b))) := Lib.hid (by
          intro V x' h
          obtain ⟨r0, r1, r2, r3, r4, r5, r6⟩ := h.ps.st
          obtain ⟨o0, o1, o2⟩ := HOP.out _ h.ps.s.below
          exact ⟨r0, r1, r2, r3, r4, r5, r6, o0, o1, o2⟩)
        obtain ⟨c0, c1, c2⟩ := HOP.out _ R.ps.s.below
        go_upto_region 13 with fail
        clear c0 c1 c2
        go_cut [15, 16] (fun s15 s16 wx => ∃ Z, s15 = .pointer (some ⟨Z, 0, none⟩) ∧ s16 = .bool true ∧ Hid (RS w b X C Y y x x wx ∧ wx.heap[Z]? = some (prO y)))
        case first =>
          have P0 := HSO.out _ _ R.drew
          have P1 := HSO.out _ _ (R.later (al W (.cells #[.int .i64 0, .int .i64 0, .int .i64 0, .int .i64 0, .int .i64 0, .int .i64 0, .bool false] 30))).drew
          obtain ⟨c0, c1, c2⟩ := HOP.out _ R.ps.s.below
          go_wp2_with fail
          go_region_held3 (fun w' => w'.cell? ⟨X, 0, none⟩ = some (.int .i64 x.mss) ∧ w'.cell? ⟨X, 1, none⟩ = some (.int .i64 x.thresh) ∧ w'.cell? ⟨X, 2, none⟩ = some (.int .i64 x.whole) ∧ w'.cell? ⟨X, 3, none⟩ = some (.int .i64 x.del) ∧ w'.cell? ⟨X, 4, none⟩ = some (.int .i64 x.out) ∧ w'.cell? ⟨X, 5, none⟩ = some (.int .i64 x.left) ∧ w'.cell? ⟨X, 6, none⟩ = some (.bool x.first) ∧ w'.cell? ⟨Bo, off + k * 3, none⟩ = some (.int .u8 s.kind) ∧ w'.cell? ⟨Bo, off + k * 3 + 1, none⟩ = some (.int .i64 s.a) ∧ w'.cell? ⟨Bo, off + k * 3 + 2, none⟩ = some (.int .i64 s.b)) (first | with_reducible exact P3 | with_reducible exact P4 | with_reducible exact P2 | with_reducible exact P1 | with_reducible exact P0 | go_keep)
            ((go_at_call 12; first
              | ((with_reducible refine (HD.out _ R.drew).mono ?_); rintro e w5 ⟨rfl, q1, q2⟩; have R1 := R.drew.wrote q1 HOS.out q2; have P2 := HSO.out _ _ R1; have P3 := HSO.out _ _ (R1.later (al w5 (prO y))); clear q1 q2)
              | (have hz := heap_alloc_new W (.cells #[.int .i64 0, .int .i64 0, .int .i64 0, .int .i64 0, .int .i64 0, .int .i64 0, .bool false] 30); have RA := (R.later (al W (.cells #[.int .i64 0, .int .i64 0, .int .i64 0, .int .i64 0, .int .i64 0, .int .i64 0, .bool false] 30))).drew; (with_reducible refine (HD.out _ RA).mono ?_); rintro e w5 ⟨rfl, q1, q2⟩; have R1 := RA.wrote q1 HOS.out q2; replace hz := q2.heap (by have := HXY.out.1; simp; omega) hz; have P2 := HSO.out _ _ R1; have P4 := HSO.out _ _ (R1.put5 y HXY.out.1 HXY.out.2.1 HXY.out.2.2.1 HXY.out.2.2.2.1 HXY.out.2.2.2.2); have g0 := fofr hz 0; have g1 := fofr hz 1; have g2 := fofr hz 2; have g3 := fofr hz 3; have g4 := fofr hz 4; have g5 := fofr hz 5; have g6 := fofr hz 6; have d0 := cofr hz 0 _ rfl; have d1 := cofr hz 1 _ rfl; have d2 := cofr hz 2 _ rfl; have d3 := cofr hz 3 _ rfl; have d4 := cofr hz 4 _ rfl; have d5 := cofr hz 5 _ rfl; have d6 := cofr hz 6 _ rfl; clear q1 q2 RA)))
          all_goals
            first
              | (have RF := R1.later (al w5 (prO y))
                 have hz := heap_alloc_new w5 (prO y)
                 clear P0 P1 P2 P3 R R1 HXY HSO HD c0 c1 c2
                 generalize hV : w5.alloc (prO y) = V at *
                 clear hV
                 generalize w5.heap.size = Z at *)
              | (have RF := R1.put5 y HXY.out.1 HXY.out.2.1 HXY.out.2.2.1 HXY.out.2.2.2.1 HXY.out.2.2.2.2
                 replace hz := putA_at (z := zero) hz y
                 clear P0 P1 P2 P4 R R1 HXY HSO HD c0 c1 c2 g0 g1 g2 g3 g4 g5 g6 d0 d1 d2 d3 d4 d5 d6
                 unfold putA at RF hz
                 generalize hV : ((((((w5.setCell ⟨W.heap.size, 0, none⟩ (.int .i64 y.mss)).setCell ⟨W.heap.size, 1, none⟩ (.int .i64 y.thresh)).setCell ⟨W.heap.size, 2, none⟩ (.int .i64 y.whole)).setCell ⟨W.heap.size, 3, none⟩ (.int .i64 y.del)).setCell ⟨W.heap.size, 4, none⟩ (.int .i64 y.out)).setCell ⟨W.heap.size, 5, none⟩ (.int .i64 y.left)).setCell ⟨W.heap.size, 6, none⟩ (.bool y.first) = V at *
                 clear hV
                 generalize W.heap.size = Z at *)
          all_goals
            have HRF := Lib.hid (And.intro RF hz)
            clear RF hz
            go_wp2_with fail
            go_meet
            exact ⟨_, rfl, rfl, HRF⟩
        case rest =>
          obtain ⟨Z, rfl, rfl, HRF⟩ := hcut
          obtain ⟨RF, hz⟩ := HRF.out
          clear HRF R HXY HD HSO
          generalize wc = V at *
          obtain ⟨z0, z1, z2, z3, z4, z5, z6⟩ := st_of hz
          obtain ⟨r0, r1, r2, r3, r4, r5, r6⟩ := RF.ps.st
          have f0 := fofr RF.ps.x 0; have f1 := fofr RF.ps.x 1; have f2 := fofr RF.ps.x 2; have f3 := fofr RF.ps.x 3; have f4 := fofr RF.ps.x 4; have f5 := fofr RF.ps.x 5; have f6 := fofr RF.ps.x 6
          go_wp2_with fail
          replace RF := RF.set y
          unfold putA at RF
          clear z0 z1 z2 z3 z4 z5 z6 r0 r1 r2 r3 r4 r5 r6 f0 f1 f2 f3 f4 f5 f6 hz
          generalize hV : ((((((V.setCell ⟨X, 0, none⟩ (.int .i64 y.mss)).setCell ⟨X, 1, none⟩ (.int .i64 y.thresh)).setCell ⟨X, 2, none⟩ (.int .i64 y.whole)).setCell ⟨X, 3, none⟩ (.int .i64 y.del)).setCell ⟨X, 4, none⟩ (.int .i64 y.out)).setCell ⟨X, 5, none⟩ (.int .i64 y.left)).setCell ⟨X, 6, none⟩ (.bool y.first) = V2 at *
          clear hV
          obtain ⟨r0, r1, r2, r3, r4, r5, r6⟩ := RF.ps.st
          obtain ⟨y0, y1, y2, y3, y4, y5, y6⟩ := st_of RF.y
          have Q1 := Lib.hid (left_q RF.ps.s.s)
          have Q2 := Lib.hid (out_q RF.ps.s.s)
          have Q3 := Lib.hid (del_q RF.ps.s.s)
          have Q6 := Lib.hid (whole_q RF.ps.s.s)
          have Q4 := Lib.hid (left_q RF.c)
          have Q5 := Lib.hid (out_q RF.c)
          go_quiet (first
            | (go_at_call 13; first | exact Q1.out _ | exact Q4.out _)
            | (go_at_call 14; first | exact Q2.out _ | exact Q5.out _)
            | (go_at_call 15; exact Q3.out _)
            | (go_at_call 16; exact Q6.out _))
          replace RF := (RF.drewN nq).ps
          clear Q1 Q2 Q3 Q4 Q5 Q6 r0 r1 r2 r3 r4 r5 r6 y0 y1 y2 y3 y4 y5 y6
          go_wp2_with fail
          go_roundw
          case rel => exact ⟨k + 1, y, by go_num, by omega, by omega, HX2, RF⟩
          case measure => simp [intOf]; omega
end Go.Proofs.Ytlalcekfjbiecaa.pr
