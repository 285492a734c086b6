/-
  A window of one's own; the fixed calls of layer 17's law; a window that is none.
-/
import Derived.Test.YtphbflbgaadmeaaWinR
namespace Go.Proofs.Ytphbflbgaadmeaa.wn
open Go.RowKit aid mem
attribute [local go_sem ↓] Go.wp_at_zero Go.wp_at_succ
set_option linter.unusedVariables false
set_option linter.unusedSimpArgs false

/-- a window of one's own -/
structure WS (w0 : World) (B : Nat) (x : Wn) (w : World) : Prop where
  s : WnAt w B x
  ok : Ok x
  below : Below w0.heap.size w0 w
  le : w0.heap.size ≤ B
theorem WS.later {w0 w w' : World} {B : Nat} {x : Wn} (h : WS w0 B x w) (hb : Below w.heap.size w w') : WS w0 B x w' := ⟨h.s.later hb, h.ok, h.below.trans (hb.mono h.below.size), h.le⟩
theorem WS.wrote {w0 w w' : World} {B : Nat} {x y : Wn} (h : WS w0 B x w) (h2 : WnAt w' B y) (ho : Ok y) (hk : Kept [B] w w') : WS w0 B y w' :=
  ⟨h2, ho, h.below.trans (hk.below (by simpa using h.le) h.below.size), h.le⟩
theorem new_ws {w0 w : World} (hB : Below w0.heap.size w0 w) {m s l : Int} (h : newB m s l = true) : Calls Try.prog 8 #[.int .i64 m, .int .i64 s, .int .i64 l] w
    fun e w' => ∃ B, e = .returned (.tuple #[.pointer (some ⟨B, 0, none⟩), .int .i64 0]) ∧ WS w0 B ⟨m, l, s, l, 0⟩ w' :=
  (new_ok_any h).mono fun e w' ⟨h1, h2, h3⟩ => ⟨_, h1, h2, new_ok (newB_ok h), hB.trans (h3.mono hB.size), hB.size⟩
section
variable {w0 w : World} {B : Nat} {x : Wn} (h : WS w0 B x w)
include h
theorem cwnd_ws : Calls Try.prog 13 #[.pointer (some ⟨B, 0, none⟩)] w fun e w' => e = .returned (.int .i64 x.cwnd) ∧ WS w0 B x w' :=
  ((cwnd_q h.s).below).mono fun e w' ⟨h1, h2⟩ => ⟨h1, h.later h2⟩
theorem thresh_ws : Calls Try.prog 14 #[.pointer (some ⟨B, 0, none⟩)] w fun e w' => e = .returned (.int .i64 x.thresh) ∧ WS w0 B x w' :=
  ((thresh_q h.s).below).mono fun e w' ⟨h1, h2⟩ => ⟨h1, h.later h2⟩
theorem grow_ws (a : Int) : Calls Try.prog 17 #[.pointer (some ⟨B, 0, none⟩), .int .i64 a] w fun e w' => e = .returned (.tuple #[]) ∧ WS w0 B (grow x a) w' :=
  (grow_any h.s h.ok a).mono fun e w' ⟨h1, h2, h3⟩ => ⟨h1, h.wrote h2 (h.ok.grow a) h3⟩
theorem set_ws (a : Int) : Calls Try.prog 19 #[.pointer (some ⟨B, 0, none⟩), .int .i64 a] w fun e w' => e = .returned (.tuple #[]) ∧ WS w0 B (put x a) w' :=
  (set_any h.s a).mono fun e w' ⟨h1, h2, h3⟩ => ⟨h1, h.wrote h2 (h.ok.put a) h3⟩
theorem cut_ws (a : Int) : Calls Try.prog 16 #[.pointer (some ⟨B, 0, none⟩), .int .i64 a] w fun e w' => e = .returned (.int .i64 (cutT x a)) ∧ WS w0 B (cut x a) w' :=
  (cut_any h.s h.ok a).mono fun e w' ⟨h1, h2, h3⟩ => ⟨h1, h.wrote h2 (h.ok.cut a) h3⟩
theorem lift_ws (a b : Int) : Calls Try.prog 18 #[.pointer (some ⟨B, 0, none⟩), .int .i64 a, .int .i64 b] w fun e w' => e = .returned (.tuple #[]) ∧ WS w0 B (lift x a b) w' :=
  (lift_any h.s a b).mono fun e w' ⟨h1, h2, h3⟩ => ⟨h1, h.wrote h2 (h.ok.lift a b) h3⟩
end
set_option maxRecDepth 100000 in
set_option maxHeartbeats 1000000 in
theorem known_any (w : World) : Calls Try.prog 7 #[] w fun x w' => x = .returned (.bool true) ∧ Below w.heap.size w w' := by
  have M0 := Lib.hid (show newB 10 20 1000 = true by decide)
  have M1 := Lib.hid (show grow ⟨10, 1000, 20, 1000, 0⟩ 7 = ⟨10, 1000, 27, 1000, 0⟩ by decide)
  have M2 := Lib.hid (show grow ⟨10, 1000, 27, 1000, 0⟩ 50 = ⟨10, 1000, 37, 1000, 0⟩ by decide)
  have M3 := Lib.hid (show cut ⟨10, 1000, 37, 1000, 0⟩ 80 = ⟨10, 1000, 37, 40, 0⟩ by decide)
  have M3b := Lib.hid (show cutT ⟨10, 1000, 37, 1000, 0⟩ 80 = 40 by decide)
  have M4 := Lib.hid (show put ⟨10, 1000, 37, 40, 0⟩ 40 = ⟨10, 1000, 40, 40, 0⟩ by decide)
  have M5 := Lib.hid (show grow ⟨10, 1000, 40, 40, 0⟩ 40 = ⟨10, 1000, 50, 40, 0⟩ by decide)
  go_enter Try.func7, Try.ntmps7
  go_wp2_with (first
    | (go_at_call 8; (with_reducible refine (new_ws (Below.refl _ _) M0.out).mono ?_); rintro x w1 ⟨b, rfl, S⟩)
    | (go_at_call 17; (with_reducible refine (grow_ws S _).mono ?_); clear S; rintro x w1 ⟨rfl, S⟩; first | rw [M1.out] at S | rw [M2.out] at S | rw [M5.out] at S)
    | (go_at_call 13; (with_reducible refine (cwnd_ws S).mono ?_); clear S; rintro x w1 ⟨rfl, S⟩; dsimp only)
    | (go_at_call 14; (with_reducible refine (thresh_ws S).mono ?_); clear S; rintro x w1 ⟨rfl, S⟩; dsimp only)
    | (go_at_call 16; (with_reducible refine (cut_ws S _).mono ?_); clear S; rintro x w1 ⟨rfl, S⟩; rw [M3.out] at S; rw [M3b.out])
    | (go_at_call 19; (with_reducible refine (set_ws S _).mono ?_); clear S; rintro x w1 ⟨rfl, S⟩; rw [M4.out] at S))
  go_ret
  exact ⟨rfl, S.below⟩
theorem known_b {w0 w : World} (hb : Below w0.heap.size w0 w) : Calls Try.prog 7 #[] w fun x w' => x = .returned (.bool true) ∧ Below w0.heap.size w0 w' :=
  (known_any w).mono fun x w' ⟨h1, h2⟩ => ⟨h1, hb.trans (h2.mono hb.size)⟩
theorem known_ws {w0 w : World} {B : Nat} {e : Wn} (h : WS w0 B e w) : Calls Try.prog 7 #[] w fun x w' => x = .returned (.bool true) ∧ WS w0 B e w' :=
  (known_any w).mono fun x w' ⟨h1, h2⟩ => ⟨h1, h.later h2⟩

set_option maxHeartbeats 2000000 in
theorem walk_WindowNone (n : Int) (hn : -9223372036854775808 ≤ n ∧ n ≤ 9223372036854775807) (w : World) : Calls Try.prog 6 #[.int .i64 n] w fun x w' => x = .returned (.bool true) ∧ Below w.heap.size w w' := by
  have HN := Lib.hid (fun W => none_q W)
  go_enter Try.func6, Try.ntmps6
  have hb := Below.refl w.heap.size w
  go_wp2_with (first
    | (go_at_call 7; (with_reducible refine (known_b hb).mono ?_); clear hb; rintro e w1 ⟨rfl, hb⟩)
    | (go_at_call 13; (with_reducible refine (HN.out _).1.below.mono ?_); rintro e w1 ⟨rfl, h2⟩; replace hb := hb.trans (h2.mono hb.size); clear h2)
    | (go_at_call 14; (with_reducible refine (HN.out _).2.1.below.mono ?_); rintro e w1 ⟨rfl, h2⟩; replace hb := hb.trans (h2.mono hb.size); clear h2)
    | (go_at_call 15; (with_reducible refine (HN.out _).2.2.1.below.mono ?_); rintro e w1 ⟨rfl, h2⟩; replace hb := hb.trans (h2.mono hb.size); clear h2)
    | (go_at_call 11; (with_reducible refine (HN.out _).2.2.2.1.below.mono ?_); rintro e w1 ⟨rfl, h2⟩; replace hb := hb.trans (h2.mono hb.size); clear h2)
    | (go_at_call 20; (with_reducible refine (HN.out _).2.2.2.2.1.below.mono ?_); rintro e w1 ⟨rfl, h2⟩; replace hb := hb.trans (h2.mono hb.size); clear h2)
    | (go_at_call 16; (with_reducible refine ((HN.out _).2.2.2.2.2.1 _).below.mono ?_); rintro e w1 ⟨rfl, h2⟩; replace hb := hb.trans (h2.mono hb.size); clear h2)
    | (go_at_call 19; (with_reducible refine ((HN.out _).2.2.2.2.2.2.1 _).below.mono ?_); rintro e w1 ⟨rfl, h2⟩; replace hb := hb.trans (h2.mono hb.size); clear h2)
    | (go_at_call 17; (with_reducible refine ((HN.out _).2.2.2.2.2.2.2.1 _).below.mono ?_); rintro e w1 ⟨rfl, h2⟩; replace hb := hb.trans (h2.mono hb.size); clear h2)
    | (go_at_call 18; (with_reducible refine ((HN.out _).2.2.2.2.2.2.2.2 _ _).below.mono ?_); rintro e w1 ⟨rfl, h2⟩; replace hb := hb.trans (h2.mono hb.size); clear h2))
  go_ret
  exact ⟨rfl, hb⟩
end Go.Proofs.Ytphbflbgaadmeaa.wn
