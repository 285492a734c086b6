/-
  Layer 16's laws: the fixed calls; how long to wait; a probe that is none.
-/
import Derived.Test.YtbmbibkomedooaaPrbR
namespace Go.Proofs.Ytbmbibkomedooaa.pb
open Go.RowKit aid mem sp
attribute [local go_sem ↓] Go.wp_at_zero Go.wp_at_succ
set_option linter.unusedVariables false

/-- a probe of one's own -/
structure PS (w0 : World) (B : Nat) (p : Pb) (w : World) : Prop where
  at' : PbAt w B p
  below : Below w0.heap.size w0 w
  le : w0.heap.size ≤ B
theorem PS.later {w0 w w' : World} {B : Nat} {p : Pb} (h : PS w0 B p w) (hb : Below w.heap.size w w') : PS w0 B p w' := ⟨h.at'.later hb, h.below.trans (hb.mono h.below.size), h.le⟩
theorem ps_new {w0 w : World} (h : Below w0.heap.size w0 w) : PS w0 w.heap.size Pb.off (w.alloc (.cells #[.bool false, .bool false, .int .i64 0] 27)) :=
  ⟨heap_alloc_new w _, h.trans ((bal _).mono h.size), h.size⟩
def PostP (w0 : World) (B : Nat) (v : Value) (p : Pb) (w : World) (e : Ending) (w' : World) : Prop := e = .returned v ∧ PS w0 B p w' ∧ Kept [B] w w'
theorem PS.wrote {w0 w w' : World} {B : Nat} {p q : Pb} (h : PS w0 B p w) (h2 : PbAt w' B q) (hk : Kept [B] w w') : PS w0 B q w' := ⟨h2, h.below.trans (hk.below (by simpa using h.le) h.below.size), h.le⟩
theorem on_ps {w0 w : World} {B : Nat} {p : Pb} (h : PS w0 B p w) : Calls Try.prog 15 #[.pointer (some ⟨B, 0, none⟩)] w (PostP w0 B (.bool p.on) p w) :=
  (on_eq h.at').mono fun e w' ⟨h1, h2⟩ => ⟨h1, h2 ▸ h, h2 ▸ Kept.refl _ _⟩
theorem end_ps {w0 w : World} {B : Nat} {p : Pb} (h : PS w0 B p w) : Calls Try.prog 16 #[.pointer (some ⟨B, 0, none⟩)] w (PostP w0 B (.int .i64 p.fin) p w) :=
  (end_eq h.at').mono fun e w' ⟨h1, h2⟩ => ⟨h1, h2 ▸ h, h2 ▸ Kept.refl _ _⟩
theorem again_ps {w0 w : World} {B : Nat} {p : Pb} (h : PS w0 B p w) : Calls Try.prog 17 #[.pointer (some ⟨B, 0, none⟩)] w (PostP w0 B (.bool p.again) p w) :=
  (again_eq h.at').mono fun e w' ⟨h1, h2⟩ => ⟨h1, h2 ▸ h, h2 ▸ Kept.refl _ _⟩
theorem stop_ps {w0 w : World} {B : Nat} {p : Pb} (h : PS w0 B p w) : Calls Try.prog 12 #[.pointer (some ⟨B, 0, none⟩)] w (PostP w0 B (.bool p.on) (if p.on then Pb.off else p) w) :=
  (stop_any h.at').mono fun e w' ⟨h1, h2, h3⟩ => ⟨h1, h.wrote h2 h3, h3⟩
theorem start_ps {w0 w : World} {B : Nat} {p : Pb} (h : PS w0 B p w) (n : Int) (g : Bool) : Calls Try.prog 11 #[.pointer (some ⟨B, 0, none⟩), .int .i64 n, .bool g] w (PostP w0 B (.int .i64 (stE p n)) (stP p n g) w) :=
  (start_any h.at' n g).mono fun e w' ⟨h1, h2, h3⟩ => ⟨h1, h.wrote h2 h3, h3⟩
theorem told_ps {w0 w : World} {B : Nat} {p : Pb} (h : PS w0 B p w) (ack : Int) (isDup : Bool) (d : Int × Int) (bare : Bool) : Calls Try.prog 14 #[.pointer (some ⟨B, 0, none⟩), .int .i64 ack, .bool isDup, spV d, .bool bare] w (PostP w0 B (.int .i64 (tellN p ack isDup d bare)) (tellP p ack isDup d bare) w) :=
  (told_any h.at' ack isDup d bare).mono fun e w' ⟨h1, h2, h3⟩ => ⟨h1, h.wrote h2 h3, h3⟩
set_option maxHeartbeats 1000000 in
theorem known_any (w : World) : Calls Try.prog 7 #[] w fun x w' => x = .returned (.bool true) ∧ Below w.heap.size w w' := by
  have HS := Lib.hid (ps_new (Below.refl w.heap.size w))
  have E1 := Lib.hid (show stE Pb.off 20 = 0 from by decide)
  have P1 := Lib.hid (show stP Pb.off 20 true = ⟨true, true, 20⟩ from rfl)
  have E2 := Lib.hid (show stE ⟨true, true, 20⟩ 30 = 13 from by decide)
  have P2 := Lib.hid (show stP ⟨true, true, 20⟩ 30 true = ⟨true, true, 20⟩ from rfl)
  have E3 := Lib.hid (show tellN ⟨true, true, 20⟩ 20 true (10, 20) false = 1 from by decide)
  have P3 := Lib.hid (show tellP ⟨true, true, 20⟩ 20 true (10, 20) false = Pb.off from rfl)
  go_enter Try.func7, Try.ntmps7
  go_wp2_with (first
    | (go_at_call 11; (with_reducible refine (start_ps HS.out 20 true).mono ?_); rintro x w1 ⟨rfl, S1, q⟩; clear HS q; rw [P1.out] at S1; rw [E1.out])
    | (go_at_call 11; (with_reducible refine (start_ps S1 30 true).mono ?_); rintro x w1 ⟨rfl, S2, q⟩; clear S1 q; rw [P2.out] at S2; rw [E2.out])
    | (go_at_call 14; (with_reducible refine (told_ps S2 20 true (10, 20) false).mono ?_); rintro x w1 ⟨rfl, S3, q⟩; clear S2 q; rw [P3.out] at S3; rw [E3.out])
    | (go_at_call 15; (with_reducible refine (on_ps S3).mono ?_); rintro x w1 ⟨rfl, S4, q⟩; clear S3 q))
  go_ret
  exact ⟨rfl, S4.below⟩
theorem known_b {w0 w : World} (hb : Below w0.heap.size w0 w) : Calls Try.prog 7 #[] w fun x w' => x = .returned (.bool true) ∧ Below w0.heap.size w0 w' :=
  (known_any w).mono fun x w' ⟨h1, h2⟩ => ⟨h1, hb.trans (h2.mono hb.size)⟩
set_option maxHeartbeats 2000000 in
theorem walk_ProbeWaits (s : Int) (hs : -9223372036854775808 ≤ s ∧ s ≤ 9223372036854775807) (has one : Bool) (d : Int) (hd : -9223372036854775808 ≤ d ∧ d ≤ 9223372036854775807) (w : World) : Calls Try.prog 3 #[.int .i64 s, .bool has, .bool one, .int .i64 d] w fun x w' => x = .returned (.bool true) ∧ Below w.heap.size w w' := by
  have hb := Below.refl w.heap.size w
  have h1 : 1 ≤ wt s has one d ∧ wt s has one d ≤ 68719476736 := by unfold wt; split <;> omega
  have H1 := Lib.hid (wait_eq s has one d)
  have H2 := Lib.hid (rwait_eq s has one d)
  generalize wt s has one d = n at *
  obtain ⟨n1, n2⟩ := h1
  go_enter Try.func3, Try.ntmps3
  go_wp2_with (first
    | (go_at_call 7; (with_reducible refine (known_b hb).mono ?_); clear hb; rintro e w1 ⟨rfl, hb⟩)
    | (go_at_call 8; (with_reducible refine (H1.out _).mono ?_); rintro e w1 ⟨rfl, rfl⟩)
    | (go_at_call 9; (with_reducible refine (H2.out _).mono ?_); rintro e w1 ⟨rfl, rfl⟩))
  go_ret
  exact ⟨rfl, hb⟩
set_option maxHeartbeats 2000000 in
theorem walk_ProbeNone (n : Int) (hn : -9223372036854775808 ≤ n ∧ n ≤ 9223372036854775807) (w : World) : Calls Try.prog 6 #[.int .i64 n] w fun x w' => x = .returned (.bool true) ∧ Below w.heap.size w w' := by
  have hb := Below.refl w.heap.size w
  have HN := Lib.hid (fun W => none_eq W)
  have HT := Lib.hid (fun W => none_told W n true true (0, 0))
  have HS := Lib.hid (fun W => none_stop W)
  go_enter Try.func6, Try.ntmps6
  go_wp2_with (first
    | (go_at_call 7; (with_reducible refine (known_b hb).mono ?_); clear hb; rintro e w1 ⟨rfl, hb⟩)
    | (go_at_call 11; (with_reducible refine ((HN.out _).2.2.2 _ _).mono ?_); rintro e w1 ⟨rfl, rfl⟩)
    | (go_at_call 14; (with_reducible refine (HT.out _).mono ?_); rintro e w1 ⟨rfl, h2⟩; replace hb := hb.trans (h2.mono hb.size); clear h2)
    | (go_at_call 12; (with_reducible refine (HS.out _).mono ?_); rintro e w1 ⟨rfl, rfl⟩)
    | (go_at_call 15; (with_reducible refine (HN.out _).1.mono ?_); rintro e w1 ⟨rfl, rfl⟩)
    | (go_at_call 16; (with_reducible refine (HN.out _).2.1.mono ?_); rintro e w1 ⟨rfl, rfl⟩)
    | (go_at_call 17; (with_reducible refine (HN.out _).2.2.1.mono ?_); rintro e w1 ⟨rfl, rfl⟩))
  go_ret
  exact ⟨rfl, hb⟩
end Go.Proofs.Ytbmbibkomedooaa.pb
