/-
  Layer 8's law: a tree that is none.
-/
import Derived.Test.YthganmlechikiabAvlH
namespace Go.Proofs.Ythganmlechikiab.av
open Go.RowKit aid mem rng
attribute [local go_sem ↓] Go.wp_at_zero Go.wp_at_succ
set_option linter.unusedVariables false

def ToldN (L : Ps) (w : World) (e : Ending) (W' : World) : Prop :=
  ∃ a cap, e = .returned (.slice a L.length cap) ∧ W'.ownsRow w.heap.size 37 2 (.slice a L.length cap) L.length (prCells L) ∧ Below w.heap.size w W'
theorem Told.n {L : Ps} {w : World} {e : Ending} {W' : World} (h : Told L w e W') : ToldN L w e W' := by
  obtain ⟨v, rfl, ho, hb⟩ := h
  obtain ⟨a, cap, rfl⟩ := own_form ho
  exact ⟨a, cap, rfl, ho, hb⟩
theorem told_nil (b : Bool) (w : World) : Calls Try.prog 14 #[.pointer none, .bool b] w fun e w' => ∃ a cap, e = .returned (.slice a 0 cap) ∧ Below w.heap.size w w' := by
  cases b with
  | false => exact (told_any (trO_none w) List.Pairwise.nil (fun x hx => by cases hx) (by simp [T.size])).mono fun e w' h => by obtain ⟨a, cap, rfl, _, hb⟩ := h.n; exact ⟨a, cap, rfl, hb⟩
  | true => exact (back_told (trO_none w) List.Pairwise.nil (fun x hx => by cases hx) (by simp [T.size])).mono fun e w' h => by obtain ⟨a, cap, rfl, _, hb⟩ := h.n; exact ⟨a, cap, rfl, hb⟩

set_option maxRecDepth 100000 in
set_option maxHeartbeats 4000000 in
theorem walk_AvlNone (w : World) (key : Int) (hkey : -9223372036854775808 ≤ key ∧ key ≤ 9223372036854775807) :
    Calls Try.prog 7 #[.int .i64 key] w fun e w' => e = .returned (.bool true) ∧ Below w.heap.size w w' := by
  have up0 : T.Up T.nil.toL := List.Pairwise.nil
  have HG := Lib.hid (fun (w : World) => show Calls Try.prog 11 #[.pointer none, .int .i64 key] w fun e w' => e = .returned (.tuple #[.int .i64 0, .bool false]) ∧ Below w.heap.size w w' from get_any (trO_none w) key up0)
  have HF := Lib.hid (fun (w : World) => show Calls Try.prog 20 #[.pointer none, .int .i64 key] w fun e w' => e = .returned (.tuple #[.int .i64 0, .int .i64 0, .bool false]) ∧ Below w.heap.size w w' from tfloor_any (trO_none w) key up0)
  have HC := Lib.hid (fun (w : World) => show Calls Try.prog 21 #[.pointer none, .int .i64 key] w fun e w' => e = .returned (.tuple #[.int .i64 0, .int .i64 0, .bool false]) ∧ Below w.heap.size w w' from tceil_any (trO_none w) key up0)
  have HA := Lib.hid (fun (w : World) => show Calls Try.prog 22 #[.pointer none, .int .i64 key] w fun e w' => e = .returned (.tuple #[.int .i64 0, .int .i64 0, .bool false]) ∧ Below w.heap.size w w' from by
    have := tat_any (trO_none w) key hkey (by simp [T.size]); rwa [show T.nil.toL = [] from rfl, atL_nil] at this)
  have HR := Lib.hid (fun (w : World) => show Calls Try.prog 24 #[.pointer none, .int .i64 key] w fun e w' => e = .returned (.int .i64 0) ∧ w = w' from trank_any (trO_none w) key up0 (by simp [T.size]))
  have HL := Lib.hid (fun (w : World) => show Calls Try.prog 12 #[.pointer none] w fun e w' => e = .returned (.int .i64 0) ∧ w = w' from tlen_any (trO_none w))
  have HH := Lib.hid (fun (w : World) => show Calls Try.prog 27 #[.pointer none] w fun e w' => e = .returned (.int .i64 0) ∧ w = w' from height_any (trO_none w))
  clear up0
  go_enter Try.func7, Try.ntmps7
  go_wp2_with (first
    | (go_at_call 8; (with_reducible refine (known_any _).mono ?_); rintro e w1 ⟨rfl, hB1⟩)
    | (go_at_call 11; (with_reducible refine (HG.out _).mono ?_); rintro e w2 ⟨rfl, b2⟩; have hB2 := hB1.trans (b2.mono hB1.size); clear hB1 b2)
    | (go_at_call 20; (with_reducible refine (HF.out _).mono ?_); rintro e w3 ⟨rfl, b3⟩; have hB3 := hB2.trans (b3.mono hB2.size); clear hB2 b3)
    | (go_at_call 21; (with_reducible refine (HC.out _).mono ?_); rintro e w4 ⟨rfl, b4⟩; have hB4 := hB3.trans (b4.mono hB3.size); clear hB3 b4)
    | (go_at_call 22; (with_reducible refine (HA.out _).mono ?_); rintro e w5 ⟨rfl, b5⟩; have hB5 := hB4.trans (b5.mono hB4.size); clear hB4 b5)
    | (go_at_call 16; (with_reducible refine (put_none _ _ _).mono ?_); rintro e w' ⟨rfl, rfl⟩)
    | (go_at_call 26; (with_reducible refine (delete_none _ _).mono ?_); rintro e w' ⟨rfl, rfl⟩)
    | (go_at_call 24; (with_reducible refine (HR.out _).mono ?_); rintro e w' ⟨rfl, rfl⟩)
    | (go_at_call 12; (with_reducible refine (HL.out _).mono ?_); rintro e w' ⟨rfl, rfl⟩)
    | (go_at_call 27; (with_reducible refine (HH.out _).mono ?_); rintro e w' ⟨rfl, rfl⟩)
    | (go_at_call 14; (with_reducible refine (told_nil false _).mono ?_); rintro e w6 ⟨a6, c6, rfl, b6⟩; have hB6 := hB5.trans (b6.mono hB5.size); clear hB5 b6)
    | (go_at_call 14; (with_reducible refine (told_nil true _).mono ?_); rintro e w7 ⟨a7, c7, rfl, b7⟩; have hB7 := hB6.trans (b7.mono hB6.size); clear hB6 b7)
    | (go_at_call 15; (with_reducible refine (clone_none _).mono ?_); rintro e w' ⟨rfl, rfl⟩; have hB1 := hB7))
  go_ret
  exact ⟨rfl, hB7.trans (‹Below w7.heap.size w7 _›.mono hB7.size)⟩
end Go.Proofs.Ythganmlechikiab.av
