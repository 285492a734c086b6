/-
  One of one's own; the fixed calls of layer 20's law; one that is none.
-/
import Derived.Test.YtjnnbnjbcgdgpaaFrtW
namespace Go.Proofs.Ytjnnbnjbcgdgpaa.fr
open Go.RowKit aid mem
attribute [local go_sem ↓] Go.wp_at_zero Go.wp_at_succ
set_option linter.unusedVariables false
set_option linter.unusedSimpArgs false

structure FS (w0 : World) (B : Nat) (x : Fr) (w : World) : Prop where
  s : FrAt w B x
  below : Below w0.heap.size w0 w
  le : w0.heap.size ≤ B
theorem bdr {w0 w : World} (hb : Below w0.heap.size w0 w) (n : Nat) : Below w0.heap.size w0 (w.drewN n) := hb.trans ⟨rfl, rfl, rfl, Nat.le_refl _, fun _ _ => rfl⟩
theorem FS.later {w0 w w' : World} {B : Nat} {x : Fr} (h : FS w0 B x w) (hb : Below w.heap.size w w') : FS w0 B x w' := ⟨h.s.later hb, h.below.trans (hb.mono h.below.size), h.le⟩
theorem FS.wrote {w0 w w' : World} {B : Nat} {x y : Fr} (h : FS w0 B x w) (h2 : FrAt w' B y) (hk : Kept [B] w w') : FS w0 B y w' :=
  ⟨h2, h.below.trans (hk.below (by simpa using h.le) h.below.size), h.le⟩
theorem FS.drewN {w0 w : World} {B : Nat} {x : Fr} (h : FS w0 B x w) (n : Nat) : FS w0 B x (w.drewN n) := ⟨h.s, bdr h.below n, h.le⟩
theorem FS.drew {w0 w : World} {B : Nat} {x : Fr} (h : FS w0 B x w) : FS w0 B x w.drew := ⟨h.s, h.below.drew, h.le⟩
theorem fs_new {w0 w : World} (hb : Below w0.heap.size w0 w) : FS w0 w.heap.size .off (w.alloc (.cells #[.int .i64 0, .int .i64 0] 26)) := ⟨heap_alloc_new w _, hb.trans ((al w _).mono hb.size), hb.size⟩
section
variable {w0 w : World} {B : Nat} {x : Fr} (h : FS w0 B x w)
include h
theorem start_fs : Calls Try.prog 7 #[.pointer (some ⟨B, 0, none⟩)] w fun e w' => e = .returned (.bool (st x == 0)) ∧ FS w0 B .one w' :=
  (start_any h.s).mono fun e w' ⟨h1, h2, h3⟩ => ⟨h1, h.wrote h2 h3⟩
theorem stop_fs : Calls Try.prog 8 #[.pointer (some ⟨B, 0, none⟩)] w fun e w' => e = .returned (.bool (decide (0 < st x))) ∧ FS w0 B .off w' :=
  (stop_any h.s).mono fun e w' ⟨h1, h2, h3⟩ => ⟨h1, h.wrote h2 h3⟩
theorem sent_fs : Calls Try.prog 10 #[.pointer (some ⟨B, 0, none⟩)] w fun e w' => e = .returned (.bool (sndB x)) ∧ FS w0 B (snd x) w' :=
  (sent_any h.s).mono fun e w' ⟨h1, h2, h3⟩ => ⟨h1, h.wrote h2 h3⟩
theorem told_fs (a wh f : Bool) : Calls Try.prog 12 #[.pointer (some ⟨B, 0, none⟩), .bool a, .bool wh, .bool f] w fun e w' => e = .returned (.int .i64 (toldN x a wh f)) ∧ FS w0 B (told x a wh f) w' :=
  (told_any h.s a wh f).mono fun e w' ⟨h1, h2, h3⟩ => ⟨h1, h.wrote h2 h3⟩
theorem holds_fs : Calls Try.prog 13 #[.pointer (some ⟨B, 0, none⟩)] w fun e w' => e = .returned (.bool (decide (0 < st x))) ∧ FS w0 B x w' :=
  (holds_q h.s).below.mono fun e w' ⟨h1, h2⟩ => ⟨h1, h.later h2⟩
end
set_option maxHeartbeats 1000000 in
theorem known_any (w : World) : Calls Try.prog 6 #[] w fun x w' => x = .returned (.bool true) ∧ Below w.heap.size w w' := by
  have S := fs_new (Below.refl w.heap.size w)
  go_enter Try.func6, Try.ntmps6
  go_wp2_with (first
    | (go_at_call 7; (with_reducible refine (start_fs S).mono ?_); clear S; rintro e w1 ⟨rfl, S⟩)
    | (go_at_call 12; (with_reducible refine (told_fs S _ _ _).mono ?_); clear S; rintro e w1 ⟨rfl, S⟩; dsimp [toldN, told, snd, st] at S ⊢)
    | (go_at_call 10; (with_reducible refine (sent_fs S).mono ?_); clear S; rintro e w1 ⟨rfl, S⟩; dsimp only [snd, sndB] at S ⊢)
    | (go_at_call 13; (with_reducible refine (holds_fs S).mono ?_); clear S; rintro e w1 ⟨rfl, S⟩; dsimp [st]))
  go_ret
  exact ⟨rfl, S.below⟩
theorem known_b {w0 w : World} (hb : Below w0.heap.size w0 w) : Calls Try.prog 6 #[] w fun x w' => x = .returned (.bool true) ∧ Below w0.heap.size w0 w' :=
  (known_any w).mono fun x w' ⟨h1, h2⟩ => ⟨h1, hb.trans (h2.mono hb.size)⟩
theorem known_fs {w0 w : World} {B : Nat} {e : Fr} (h : FS w0 B e w) : Calls Try.prog 6 #[] w fun x w' => x = .returned (.bool true) ∧ FS w0 B e w' :=
  (known_any w).mono fun x w' ⟨h1, h2⟩ => ⟨h1, h.later h2⟩
theorem dbelow (w : World) (n : Nat) : Below w.heap.size w (w.drewN n) := bdr (Below.refl _ _) n
theorem none_b (w : World) (a b c : Bool) : Calls Try.prog 8 #[.pointer none] w (fun e w' => e = .returned (.bool false) ∧ Below w.heap.size w w') ∧ Calls Try.prog 10 #[.pointer none] w (fun e w' => e = .returned (.bool false) ∧ Below w.heap.size w w') ∧ Calls Try.prog 12 #[.pointer none, .bool a, .bool b, .bool c] w (fun e w' => e = .returned (.int .i64 0) ∧ Below w.heap.size w w') :=
  ⟨(none_q2 w a b c).1.mono fun _ _ ⟨h1, n, h2⟩ => ⟨h1, h2 ▸ dbelow w n⟩, (none_q2 w a b c).2.1.mono fun _ _ ⟨h1, n, h2⟩ => ⟨h1, h2 ▸ dbelow w n⟩, (none_q2 w a b c).2.2.mono fun _ _ ⟨h1, n, h2⟩ => ⟨h1, h2 ▸ dbelow w n⟩⟩
set_option maxHeartbeats 2000000 in
theorem walk_FrtoNone (a b c : Bool) (w : World) : Calls Try.prog 5 #[.bool a, .bool b, .bool c] w fun x w' => x = .returned (.bool true) ∧ Below w.heap.size w w' := by
  have HN := Lib.hid (fun W => none_q W)
  have HM := Lib.hid (fun W => none_b W a b c)
  go_enter Try.func5, Try.ntmps5
  have hb := Below.refl w.heap.size w
  go_upto_region 5 with (first
    | (go_at_call 6; (with_reducible refine (known_b hb).mono ?_); clear hb; rintro e w1 ⟨rfl, hb⟩))
  have S := fs_new hb
  clear hb
  go_wp2_with (first
    | (go_at_call 6; (with_reducible refine (known_fs S).mono ?_); clear S; rintro e w1 ⟨rfl, S⟩)
    | (go_at_call 7; (with_reducible refine (HN.out _).2.2.below.mono ?_); rintro e w1 ⟨rfl, h2⟩; replace S := S.later h2; clear h2)
    | (go_at_call 8; (with_reducible refine (HM.out _).1.mono ?_); rintro e w1 ⟨rfl, h2⟩; replace S := S.later h2; clear h2)
    | (go_at_call 10; (with_reducible refine (HM.out _).2.1.mono ?_); rintro e w1 ⟨rfl, h2⟩; replace S := S.later h2; clear h2)
    | (go_at_call 12; (with_reducible refine (HM.out _).2.2.mono ?_); rintro e w1 ⟨rfl, h2⟩; replace S := S.later h2; clear h2)
    | (go_at_call 12; (with_reducible refine (told_fs S _ _ _).mono ?_); clear S; rintro e w1 ⟨rfl, S⟩; dsimp [toldN, told, snd, st] at S ⊢)
    | (go_at_call 13; (with_reducible refine (HN.out _).2.1.below.mono ?_); rintro e w1 ⟨rfl, h2⟩; replace S := S.later h2; clear h2)
    | (go_at_call 14; (with_reducible refine (HN.out _).1.below.mono ?_); rintro e w1 ⟨rfl, h2⟩; replace S := S.later h2; clear h2)
    | (go_at_call 8; (with_reducible refine (stop_fs S).mono ?_); clear S; rintro e w1 ⟨rfl, S⟩; dsimp [st])
    | (go_at_call 13; (with_reducible refine (holds_fs S).mono ?_); clear S; rintro e w1 ⟨rfl, S⟩; dsimp [st]))
  go_ret
  exact ⟨rfl, S.below⟩
end Go.Proofs.Ytjnnbnjbcgdgpaa.fr
