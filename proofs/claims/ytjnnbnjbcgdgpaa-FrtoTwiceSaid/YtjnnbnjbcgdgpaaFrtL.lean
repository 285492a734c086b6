/-
  Layer 20's law FrtoTwice.
-/
import Derived.Test.YtjnnbnjbcgdgpaaFrtK
import Derived.Test.YtjnnbnjbcgdgpaaFrtO
namespace Go.Proofs.Ytjnnbnjbcgdgpaa.fr
open Go.RowKit aid mem
attribute [local go_sem ↓] Go.wp_at_zero Go.wp_at_succ
set_option linter.unusedVariables false
set_option linter.unusedSimpArgs false

abbrev opC (s : OpV) : Array Value := #[.int .u8 s.kind, .bool s.adv, .bool s.whole, .bool s.fresh]
abbrev opO (s : OpV) : Obj := .cells (opC s) 30
abbrev Op (b : Nat) (s : OpV) (w' : World) : Prop := w'.cell? ⟨b, 0, none⟩ = some (.int .u8 s.kind) ∧ w'.cell? ⟨b, 1, none⟩ = some (.bool s.adv) ∧ w'.cell? ⟨b, 2, none⟩ = some (.bool s.whole) ∧ w'.cell? ⟨b, 3, none⟩ = some (.bool s.fresh)
theorem op_cs {w : World} {b : Nat} {s : OpV} (h : w.heap[b]? = some (opO s)) : Op b s w := ⟨cofr h 0 _ rfl, cofr h 1 _ rfl, cofr h 2 _ rfl, cofr h 3 _ rfl⟩
abbrev put4 (Y : Nat) (s : OpV) (W : World) : World := (((W.setCell ⟨Y, 0, none⟩ (.int .u8 s.kind)).setCell ⟨Y, 1, none⟩ (.bool s.adv)).setCell ⟨Y, 2, none⟩ (.bool s.whole)).setCell ⟨Y, 3, none⟩ (.bool s.fresh)
theorem put4_at {W : World} {Y : Nat} {z : OpV} (h : W.heap[Y]? = some (opO z)) (s : OpV) : (put4 Y s W).heap[Y]? = some (opO s) := by
  unfold put4
  have g0 : (W.setCell ⟨Y, 0, none⟩ (.int .u8 s.kind)).heap[Y]? = some (opO ⟨s.kind, z.adv, z.whole, z.fresh⟩) := heap_setCell_same _ _ 0 _ _ _ h
  generalize W.setCell ⟨Y, 0, none⟩ (.int .u8 s.kind) = W0 at *
  have g1 : (W0.setCell ⟨Y, 1, none⟩ (.bool s.adv)).heap[Y]? = some (opO ⟨s.kind, s.adv, z.whole, z.fresh⟩) := heap_setCell_same _ _ 1 _ _ _ g0
  generalize W0.setCell ⟨Y, 1, none⟩ (.bool s.adv) = W1 at *
  have g2 : (W1.setCell ⟨Y, 2, none⟩ (.bool s.whole)).heap[Y]? = some (opO ⟨s.kind, s.adv, s.whole, z.fresh⟩) := heap_setCell_same _ _ 2 _ _ _ g1
  generalize W1.setCell ⟨Y, 2, none⟩ (.bool s.whole) = W2 at *
  exact heap_setCell_same _ _ 3 _ _ _ g2
theorem put4_kept (Y : Nat) (s : OpV) (W : World) : Kept [Y] W (put4 Y s W) :=
  ((((Kept.refl [Y] W).setCell (.inl (by simp)) _).setCell (.inl (by simp)) _).setCell (.inl (by simp)) _).setCell (.inl (by simp)) _
/-- what lies in memory: one of one's own, what was told before -/
structure LS (w : World) (b Y : Nat) (x : Fr) (z : OpV) (W : World) : Prop where
  fs : FS w b x W
  y : W.heap[Y]? = some (opO z)
  by_ : b ≠ Y
  le : w.heap.size ≤ Y
theorem LS.later {w W W' : World} {b Y : Nat} {x : Fr} {z : OpV} (h : LS w b Y x z W) (hb : Below W.heap.size W W') : LS w b Y x z W' := ⟨h.fs.later hb, (hb.block _ (lt_of_block h.y)).trans h.y, h.by_, h.le⟩
/-- and the new one -/
structure LO (w : World) (b Y X : Nat) (x : Fr) (z s : OpV) (W : World) : Prop where
  ls : LS w b Y x z W
  o : W.heap[X]? = some (opO s)
  bx : b ≠ X
  xy : X ≠ Y
section
variable {w W W' : World} {b Y X : Nat} {x x' : Fr} {z s : OpV}
theorem LO.later (h : LO w b Y X x z s W) (hb : Below W.heap.size W W') : LO w b Y X x z s W' := ⟨h.ls.later hb, (hb.block _ (lt_of_block h.o)).trans h.o, h.bx, h.xy⟩
theorem LO.wrote (h : LO w b Y X x z s W) (hx : FrAt W' b x') (hk : Kept [b] W W') : LO w b Y X x' z s W' :=
  ⟨⟨h.ls.fs.wrote hx hk, hk.heap (by simp; exact Ne.symm h.ls.by_) h.ls.y, h.ls.by_, h.ls.le⟩, hk.heap (by simp; exact Ne.symm h.bx) h.o, h.bx, h.xy⟩
theorem LO.set (h : LO w b Y X x z s W) : LS w b Y x s (put4 Y s W) := by
  have hk := put4_kept Y s W
  have hy := put4_at h.ls.y s
  refine ⟨⟨h.ls.fs.s.keep hk (by simp; exact h.ls.by_), h.ls.fs.below.trans (hk.below (by simpa using h.ls.le) h.ls.fs.below.size), h.ls.fs.le⟩, hy, h.ls.by_, h.ls.le⟩
theorem LS.box (h : LS w b Y x z W) (s : OpV) : LO w b Y W.heap.size x z s (W.alloc (opO s)) :=
  ⟨h.later (al _ _), heap_alloc_new W _, by have := h.fs.s.lt; omega, by have := lt_of_block h.y; omega⟩
theorem sent_lo (h : LO w b Y X x z s W) : Calls Try.prog 10 #[.pointer (some ⟨b, 0, none⟩)] W fun e w' => e = .returned (.bool (sndB x)) ∧ LO w b Y X (snd x) z s w' :=
  (sent_any h.ls.fs.s).mono fun e w' ⟨h1, h2, h3⟩ => ⟨h1, h.wrote h2 h3⟩
theorem told_lo (h : LO w b Y X x z s W) (a wh f : Bool) : Calls Try.prog 12 #[.pointer (some ⟨b, 0, none⟩), .bool a, .bool wh, .bool f] W fun e w' => e = .returned (.int .i64 (toldN x a wh f)) ∧ LO w b Y X (told x a wh f) z s w' :=
  (told_any h.ls.fs.s a wh f).mono fun e w' ⟨h1, h2, h3⟩ => ⟨h1, h.wrote h2 h3⟩
theorem holds_lo (h : LO w b Y X x z s W) : Calls Try.prog 13 #[.pointer (some ⟨b, 0, none⟩)] W fun e w' => e = .returned (.bool (decide (0 < st x))) ∧ LO w b Y X x z s w' :=
  (holds_q h.ls.fs.s).below.mono fun e w' ⟨h1, h2⟩ => ⟨h1, h.later h2⟩
end
/-- what went, and what was told before -/
def Inv (x : Fr) (c : Int) (z : OpV) : Prop := match x with
  | .off => 0 ≤ c ∧ c ≤ 2
  | .one => c = 0
  | .two0 => c = 0 ∧ z.adv = true ∧ z.whole = false
  | .two1 => c = 1 ∧ z.adv = true ∧ z.whole = false
  | .two2 => c = 2 ∧ z.adv = true ∧ z.whole = false
theorem Inv.bd {x : Fr} {c : Int} {z : OpV} (h : Inv x c z) : 0 ≤ c ∧ c ≤ 2 := by
  cases x <;> simp only [Inv] at h <;> omega
theorem Inv.snd {x : Fr} {c : Int} {z : OpV} (h : Inv x c z) : Inv (snd x) (if sndB x = true then c + 1 else c) z := by
  cases x <;> simp only [Inv] at h <;> simp only [fr.snd, sndB, Inv] <;> simp <;> (try simp [h]) <;> omega
/-- each way of an answer -/
theorem told_ways {x : Fr} {c : Int} {z : OpV} (h : Inv x c z) (a wh f : Bool) (s : OpV) (hs : s.adv = a ∧ s.whole = wh) :
    (toldN x a wh f = 0 ∧ st (told x a wh f) = 0 ∧ Inv (told x a wh f) c s) ∨ (toldN x a wh f = 1 ∧ st (told x a wh f) = 2 ∧ Inv (told x a wh f) c s) ∨ (toldN x a wh f = 3 ∧ st (told x a wh f) = 0 ∧ Inv (told x a wh f) c s) ∨
    (toldN x a wh f = 2 ∧ st (told x a wh f) = 0 ∧ Inv (told x a wh f) c s ∧ a = true ∧ f = true ∧ z.adv = true ∧ z.whole = false) := by
  have hb := h.bd
  obtain ⟨h1, h2⟩ := hs
  cases x <;> simp only [Inv] at h <;> cases a <;> cases wh <;> cases f <;> simp_all [toldN, told, st, Inv]
set_option maxRecDepth 100000 in
set_option maxHeartbeats 4000000 in
theorem walk_FrtoTwice (w : World) (a : Option Addr) (n cap : Nat) (ops : List OpV) (hops : OpA w a n cap ops) :
    Calls Try.prog 4 #[.slice a n cap] w fun x w' => x = .returned (.bool true) ∧ Below w.heap.size w w' := by
  have hb := Below.refl w.heap.size w
  have hle := hops.le
  have hmost := hops.most
  unfold maxLen at hmost
  have HC := Lib.hid hops.cells
  clear hops
  go_enter Try.func4, Try.ntmps4
  go_upto_region 4 with (go_at_call 6; (with_reducible refine (known_b hb).mono ?_); clear hb; rintro e w1 ⟨rfl, hb⟩)
  have S := fs_new hb
  have HXL := Lib.hid (lt_of_block S.s)
  clear hb
  go_wp2_with (go_at_call 7; (with_reducible refine (start_fs S).mono ?_); clear S; rintro e w2 ⟨rfl, S⟩)
  have P0 : LS w w1.heap.size w2.heap.size .one ⟨0, false, false, false⟩ (w2.alloc (opO ⟨0, false, false, false⟩)) := ⟨S.later (al _ _), heap_alloc_new w2 _, Nat.ne_of_lt S.s.lt, S.below.size⟩
  clear S HXL
  generalize w1.heap.size = b at *
  generalize w2.heap.size = Y at *
  go_loopw [4, 6] (fun u i wr => ∃ (k : Nat) (c : Int) (x : Fr) (z : OpV), i = .int .i64 k ∧ u = .int .i64 c ∧ k ≤ n ∧ k ≤ 100 ∧ Hid (Inv x c z) ∧ LS w b Y x z wr) (fun _ i _ => 100 - (intOf i).toNat)
  case atStart => exact ⟨0, 0, _, _, rfl, rfl, by omega, by omega, Lib.hid (show Inv .one 0 ⟨0, false, false, false⟩ from rfl), P0⟩
  case round =>
    clear P0
    obtain ⟨k, c, x, z, rfl, rfl, hk, hk3, HX, S⟩ := hrel
    obtain ⟨hc0, hc1⟩ := HX.out.bd
    by_cases hlt : k < n ∧ k < 100
    case neg =>
      by_cases h1 : k < n
      · have h2 : ¬ k < 100 := by omega
        go_wp2_with (go_at_call 6; (with_reducible refine (known_b S.fs.below).mono ?_); clear S; rintro e w1 ⟨rfl, S⟩)
        go_ret
        exact ⟨rfl, S⟩
      · go_wp2_with (go_at_call 6; (with_reducible refine (known_b S.fs.below).mono ?_); clear S; rintro e w1 ⟨rfl, S⟩)
        go_ret
        exact ⟨rfl, S⟩
    case pos =>
    obtain ⟨h1, h2⟩ := hlt
    obtain ⟨Bo, off, rfl, hc⟩ := HC.out (by omega)
    obtain ⟨c0, c1, c2, c3, hok⟩ := hc k h1
    have c0 := (S.fs.below.cell (p := ⟨Bo, off + k * 4, none⟩) (World.block_lt_of_cell? w _ c0)).trans c0
    have c1 := (S.fs.below.cell (p := ⟨Bo, off + k * 4 + 1, none⟩) (World.block_lt_of_cell? w _ c1)).trans c1
    have c2 := (S.fs.below.cell (p := ⟨Bo, off + k * 4 + 2, none⟩) (World.block_lt_of_cell? w _ c2)).trans c2
    have c3 := (S.fs.below.cell (p := ⟨Bo, off + k * 4 + 3, none⟩) (World.block_lt_of_cell? w _ c3)).trans c3
    clear hc
    generalize ops.getD k default = s at *
    have s0 := hok.1; have s1 := hok.2
    clear hok
    go_upto_region 11 with fail
    have R := S.box s
    clear S c0 c1 c2 c3
    generalize hW : wr.alloc (opO s) = W at *
    clear hW
    generalize wr.heap.size = X at *
    obtain ⟨c0, c1, c2, c3⟩ := op_cs R.o
    by_cases hk3 : s.kind % 5 < 3
    · have HI := Lib.hid HX.out.snd
      clear HX
      cases hB : sndB x with
      | true =>
        rw [hB] at HI
        rw [if_pos rfl] at HI
        have HB := Lib.hid hB
        clear hB
        go_wp2_with (go_at_call 10; (with_reducible refine (sent_lo R).mono ?_); clear R; rintro e w2 ⟨rfl, R⟩; rw [HB.out])
        go_roundw
        case rel => exact ⟨k + 1, c + 1, _, _, by go_num, rfl, by omega, by omega, HI, R.ls⟩
        case measure => simp [intOf]; omega
      | false =>
        rw [hB] at HI
        rw [if_neg (by simp)] at HI
        have HB := Lib.hid hB
        clear hB
        go_wp2_with (go_at_call 10; (with_reducible refine (sent_lo R).mono ?_); clear R; rintro e w2 ⟨rfl, R⟩; rw [HB.out])
        go_roundw
        case rel => exact ⟨k + 1, c, _, _, by go_num, rfl, by omega, by omega, HI, R.ls⟩
        case measure => simp [intOf]; omega
    · have HT := Lib.hid (told_ways HX.out s.adv s.whole s.fresh s ⟨rfl, rfl⟩)
      have HQ := Lib.hid (fun W (h : LO w b Y X x z s W) => told_lo h s.adv s.whole s.fresh)
      clear HX
      generalize toldN x s.adv s.whole s.fresh = nn at *
      generalize told x s.adv s.whole s.fresh = y at *
      rcases HT.out with ⟨rfl, hy, hI⟩ | ⟨rfl, hy, hI⟩ | ⟨rfl, hy, hI⟩ | ⟨rfl, hy, hI, ha, hf, hz1, hz2⟩
      all_goals
        have HI := Lib.hid hI
        have HY := Lib.hid hy
        clear hI HT hy
      rotate_left 3
      · have HA := Lib.hid (And.intro ha (And.intro hf (And.intro hz1 hz2)))
        clear ha hf hz1 hz2
        go_wp2_with (first
          | (go_at_call 12; (with_reducible refine (HQ.out _ R).mono ?_); clear R HQ c0 c1 c2 c3; rintro e w2 ⟨rfl, R⟩; obtain ⟨c0, c1, c2, c3⟩ := op_cs R.o; rw [HA.out.1] at c1; rw [HA.out.2.1] at c3; obtain ⟨d0, d1, d2, d3⟩ := op_cs R.ls.y; rw [HA.out.2.2.1] at d1; rw [HA.out.2.2.2] at d2)
          | (go_at_call 13; (with_reducible refine (holds_lo R).mono ?_); clear R c0 c1 c2 c3 d0 d1 d2 d3; rintro e w2 ⟨rfl, R⟩; rw [HY.out]; obtain ⟨c0, c1, c2, c3⟩ := op_cs R.o; rw [HA.out.1] at c1; rw [HA.out.2.1] at c3; obtain ⟨d0, d1, d2, d3⟩ := op_cs R.ls.y; have g0 := fofr R.ls.y 0; have g1 := fofr R.ls.y 1; have g2 := fofr R.ls.y 2; have g3 := fofr R.ls.y 3))
        go_roundw
        case rel => exact ⟨k + 1, c, _, s, by go_num, rfl, by omega, by omega, HI, by have := R.set; unfold put4 at this; rw [HA.out.1, HA.out.2.1] at this; exact this⟩
        case measure => simp [intOf]; omega
      all_goals
        go_wp2_with (first
          | (go_at_call 12; (with_reducible refine (HQ.out _ R).mono ?_); clear R HQ c0 c1 c2 c3; rintro e w2 ⟨rfl, R⟩; obtain ⟨c0, c1, c2, c3⟩ := op_cs R.o; obtain ⟨d0, d1, d2, d3⟩ := op_cs R.ls.y; have g0 := fofr R.ls.y 0; have g1 := fofr R.ls.y 1; have g2 := fofr R.ls.y 2; have g3 := fofr R.ls.y 3)
          | (go_at_call 13; (with_reducible refine (holds_lo R).mono ?_); clear R c0 c1 c2 c3 d0 d1 d2 d3 g0 g1 g2 g3; rintro e w2 ⟨rfl, R⟩; rw [HY.out]; obtain ⟨c0, c1, c2, c3⟩ := op_cs R.o; obtain ⟨d0, d1, d2, d3⟩ := op_cs R.ls.y; have g0 := fofr R.ls.y 0; have g1 := fofr R.ls.y 1; have g2 := fofr R.ls.y 2; have g3 := fofr R.ls.y 3))
        go_roundw
        case rel => exact ⟨k + 1, c, _, s, by go_num, rfl, by omega, by omega, HI, R.set⟩
        case measure => simp [intOf]; omega
end Go.Proofs.Ytjnnbnjbcgdgpaa.fr
