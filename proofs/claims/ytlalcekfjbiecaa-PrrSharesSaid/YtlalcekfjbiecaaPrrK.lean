/-
  An episode of one's own; the fixed calls of layer 18's law; an episode that is none.
-/
import Derived.Test.YtlalcekfjbiecaaPrrR
namespace Go.Proofs.Ytlalcekfjbiecaa.pr
open Go.RowKit aid mem
attribute [local go_sem ↓] Go.wp_at_zero Go.wp_at_succ
set_option linter.unusedVariables false
set_option linter.unusedSimpArgs false

/-- an episode of one's own, behind k answers at most -/
structure PS (w0 : World) (B : Nat) (k : Nat) (x : Pr) (w : World) : Prop where
  s : PrAt w B x
  inv : Inv k x
  below : Below w0.heap.size w0 w
  le : w0.heap.size ≤ B
theorem PS.later {w0 w w' : World} {B k : Nat} {x : Pr} (h : PS w0 B k x w) (hb : Below w.heap.size w w') : PS w0 B k x w' := ⟨h.s.later hb, h.inv, h.below.trans (hb.mono h.below.size), h.le⟩
theorem PS.wrote {w0 w w' : World} {B k k' : Nat} {x y : Pr} (h : PS w0 B k x w) (h2 : PrAt w' B y) (ho : Inv k' y) (hk : Kept [B] w w') : PS w0 B k' y w' :=
  ⟨h2, ho, h.below.trans (hk.below (by simpa using h.le) h.below.size), h.le⟩
theorem PS.up {w0 w : World} {B k : Nat} {x : Pr} (h : PS w0 B k x w) : PS w0 B (k + 1) x w := ⟨h.s, h.inv.up, h.below, h.le⟩
theorem new_ps {w0 w : World} (hB : Below w0.heap.size w0 w) {m f t : Int} (h : newB m f t = true) : Calls Try.prog 8 #[.int .i64 m, .int .i64 f, .int .i64 t] w
    fun e w' => ∃ B, e = .returned (.tuple #[.pointer (some ⟨B, 0, none⟩), .int .i64 0]) ∧ PS w0 B 0 ⟨m, t, max f t, 0, 0, 0, false⟩ w' :=
  (new_ok_any h).mono fun e w' ⟨h1, h2, h3⟩ => ⟨_, h1, h2, inv_new (newB_ok h), hB.trans (h3.mono hB.size), hB.size⟩
section
variable {w0 w : World} {B k : Nat} {x : Pr} (h : PS w0 B k x w)
include h
theorem left_ps : Calls Try.prog 13 #[.pointer (some ⟨B, 0, none⟩)] w fun e w' => e = .returned (.int .i64 x.left) ∧ PS w0 B k x w' :=
  ((left_q h.s).below).mono fun e w' ⟨h1, h2⟩ => ⟨h1, h.later h2⟩
theorem out_ps : Calls Try.prog 14 #[.pointer (some ⟨B, 0, none⟩)] w fun e w' => e = .returned (.int .i64 x.out) ∧ PS w0 B k x w' :=
  ((out_q h.s).below).mono fun e w' ⟨h1, h2⟩ => ⟨h1, h.later h2⟩
theorem del_ps : Calls Try.prog 15 #[.pointer (some ⟨B, 0, none⟩)] w fun e w' => e = .returned (.int .i64 x.del) ∧ PS w0 B k x w' :=
  ((del_q h.s).below).mono fun e w' ⟨h1, h2⟩ => ⟨h1, h.later h2⟩
theorem sent_ps (n : Int) : Calls Try.prog 17 #[.pointer (some ⟨B, 0, none⟩), .int .i64 n] w fun e w' => e = .returned (.int .i64 (sndE x n)) ∧ PS w0 B k (snd x n) w' :=
  (sent_any h.s h.inv.ok n).mono fun e w' ⟨h1, h2, h3⟩ => ⟨h1, h.wrote h2 (inv_snd h.inv n) h3⟩
theorem first_ps : Calls Try.prog 18 #[.pointer (some ⟨B, 0, none⟩)] w fun e w' => e = .returned (.int .i64 (fstE x)) ∧ PS w0 B k (fst x) w' :=
  (first_any h.s).mono fun e w' ⟨h1, h2, h3⟩ => ⟨h1, h.wrote h2 (inv_fst h.inv) h3⟩
theorem ack_ps (hk : k < 300) (d pipe : Int) (hp : -9223372036854775808 ≤ pipe ∧ pipe ≤ 9223372036854775807) : Calls Try.prog 19 #[.pointer (some ⟨B, 0, none⟩), .int .i64 d, .int .i64 pipe] w fun e w' => e = .returned (.int .i64 (ack x d pipe).left) ∧ PS w0 B (k + 1) (ack x d pipe) w' :=
  (ack_any h.s h.inv.ok d pipe hp).mono fun e w' ⟨h1, h2, h3⟩ => ⟨h1, h.wrote h2 (inv_ack h.inv hk d pipe) h3⟩
end
set_option maxRecDepth 100000 in
set_option maxHeartbeats 1000000 in
theorem known_any (w : World) : Calls Try.prog 7 #[] w fun x w' => x = .returned (.bool true) ∧ Below w.heap.size w w' := by
  have M0 := Lib.hid (show newB 10 100 50 = true by decide)
  have M1 := Lib.hid (show ack ⟨10, 50, max 100 50, 0, 0, 0, false⟩ 10 90 = ⟨10, 50, 100, 10, 0, 5, false⟩ by decide)
  have M2 := Lib.hid (show snd ⟨10, 50, 100, 10, 0, 5, false⟩ 5 = ⟨10, 50, 100, 10, 5, 0, false⟩ by decide)
  have M2b := Lib.hid (show sndE ⟨10, 50, 100, 10, 0, 5, false⟩ 5 = 0 by decide)
  have M3 := Lib.hid (show ack ⟨10, 50, 100, 10, 5, 0, false⟩ 10 80 = ⟨10, 50, 100, 20, 5, 5, false⟩ by decide)
  have M4 := Lib.hid (show ack ⟨10, 50, 100, 20, 5, 5, false⟩ 10 40 = ⟨10, 50, 100, 30, 5, 10, false⟩ by decide)
  have M5b := Lib.hid (show sndE ⟨10, 50, 100, 30, 5, 10, false⟩ 11 = 4 by decide)
  go_enter Try.func7, Try.ntmps7
  go_wp2_with (first
    | (go_at_call 8; (with_reducible refine (new_ps (Below.refl _ _) M0.out).mono ?_); rintro x w1 ⟨b, rfl, S⟩)
    | (go_at_call 19; (with_reducible refine (ack_ps S (by omega) _ _ (by decide)).mono ?_); clear S; rintro x w1 ⟨rfl, S⟩; first | rw [M1.out] at S ⊢ | rw [M3.out] at S ⊢ | rw [M4.out] at S ⊢)
    | (go_at_call 17; (with_reducible refine (sent_ps S _).mono ?_); clear S; rintro x w1 ⟨rfl, S⟩; first | (rw [M2.out] at S; rw [M2b.out]) | rw [M5b.out]))
  go_ret
  exact ⟨rfl, S.below⟩
theorem known_b {w0 w : World} (hb : Below w0.heap.size w0 w) : Calls Try.prog 7 #[] w fun x w' => x = .returned (.bool true) ∧ Below w0.heap.size w0 w' :=
  (known_any w).mono fun x w' ⟨h1, h2⟩ => ⟨h1, hb.trans (h2.mono hb.size)⟩
theorem known_ps {w0 w : World} {B k : Nat} {e : Pr} (h : PS w0 B k e w) : Calls Try.prog 7 #[] w fun x w' => x = .returned (.bool true) ∧ PS w0 B k e w' :=
  (known_any w).mono fun x w' ⟨h1, h2⟩ => ⟨h1, h.later h2⟩

set_option maxHeartbeats 2000000 in
theorem walk_PrrNone (a : Int) (ha : -9223372036854775808 ≤ a ∧ a ≤ 9223372036854775807) (b : Int) (hb' : -9223372036854775808 ≤ b ∧ b ≤ 9223372036854775807) (w : World) : Calls Try.prog 6 #[.int .i64 a, .int .i64 b] w fun x w' => x = .returned (.bool true) ∧ Below w.heap.size w w' := by
  have HN := Lib.hid (fun W => none_q W)
  go_enter Try.func6, Try.ntmps6
  have hb := Below.refl w.heap.size w
  go_wp2_with (first
    | (go_at_call 7; (with_reducible refine (known_b hb).mono ?_); clear hb; rintro e w1 ⟨rfl, hb⟩)
    | (go_at_call 13; (with_reducible refine (HN.out _).1.below.mono ?_); rintro e w1 ⟨rfl, h2⟩; replace hb := hb.trans (h2.mono hb.size); clear h2)
    | (go_at_call 14; (with_reducible refine (HN.out _).2.1.below.mono ?_); rintro e w1 ⟨rfl, h2⟩; replace hb := hb.trans (h2.mono hb.size); clear h2)
    | (go_at_call 15; (with_reducible refine (HN.out _).2.2.1.below.mono ?_); rintro e w1 ⟨rfl, h2⟩; replace hb := hb.trans (h2.mono hb.size); clear h2)
    | (go_at_call 16; (with_reducible refine (HN.out _).2.2.2.1.below.mono ?_); rintro e w1 ⟨rfl, h2⟩; replace hb := hb.trans (h2.mono hb.size); clear h2)
    | (go_at_call 11; (with_reducible refine (HN.out _).2.2.2.2.1.below.mono ?_); rintro e w1 ⟨rfl, h2⟩; replace hb := hb.trans (h2.mono hb.size); clear h2)
    | (go_at_call 18; (with_reducible refine (HN.out _).2.2.2.2.2.1.below.mono ?_); rintro e w1 ⟨rfl, h2⟩; replace hb := hb.trans (h2.mono hb.size); clear h2)
    | (go_at_call 17; (with_reducible refine ((HN.out _).2.2.2.2.2.2 _).below.mono ?_); rintro e w1 ⟨rfl, h2⟩; replace hb := hb.trans (h2.mono hb.size); clear h2)
    | (go_at_call 19; (with_reducible refine (ack_nil _ _ _).mono ?_); rintro e w1 ⟨rfl, h2⟩; replace hb := hb.trans (h2.mono hb.size); clear h2))
  go_ret
  exact ⟨rfl, hb⟩
end Go.Proofs.Ytlalcekfjbiecaa.pr
