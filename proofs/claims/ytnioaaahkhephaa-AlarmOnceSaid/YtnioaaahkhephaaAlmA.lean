/-
  Alarms: the law's known; a clock that is none.
-/
import Derived.Test.YtnioaaahkhephaaAlmY
namespace Go.Proofs.Ytnioaaahkhephaa.al
open Go.RowKit Go.Maps aid mem
attribute [local go_sem ↓] Go.wp_at_zero Go.wp_at_succ
set_option linter.unusedVariables false
set_option linter.unusedSimpArgs false

theorem row_sl {W : World} {base : Nat} {v : Value} {R : List Int} (h : W.ownsRow base 3 1 v R.length (ints .i64 R)) : ∃ a cap, v = .slice a R.length cap ∧ SlA .i64 W a R.length cap R := by
  obtain ⟨a, cap, e, hs, _⟩ := sl_of_own h
  exact ⟨a, cap, e, hs⟩
/-- a clock that was made behind a world -/
def OW (w0 : World) (C : Nat) (now : Int) (L : List Int) (w : World) : Prop := ∃ S, OC C now L S w ∧ Below w0.heap.size w0 w ∧ ∀ b ∈ S, w0.heap.size ≤ b
section
variable {w0 w W : World} {C : Nat} {now : Int} {L : List Int}
theorem OW.later (h : OW w0 C now L w) (hb : Below w.heap.size w W) : OW w0 C now L W := by
  obtain ⟨S, h1, h2, h3⟩ := h
  exact ⟨S, h1.later hb, h2.trans (hb.mono h2.size), h3⟩
theorem OW.below (h : OW w0 C now L w) : Below w0.heap.size w0 w := by obtain ⟨S, h1, h2, h3⟩ := h; exact h2
theorem OW.step {S S' : List Nat} {n2 : Int} {L2 : List Int} (hb : Below w0.heap.size w0 w) (hs : ∀ b ∈ S, w0.heap.size ≤ b) (h : OC C n2 L2 S' W) (hk : Kept S w W) (hn : ∀ b ∈ S', b ∈ S ∨ w.heap.size ≤ b) : OW w0 C n2 L2 W :=
  ⟨S', h, hb.trans (hk.below hs hb.size), fun b hb' => by
    rcases hn b hb' with q | q
    · exact hs b q
    · have := hb.size; omega⟩
theorem ow_new (hb : Below w0.heap.size w0 w) (n : Nat) (h1 : 1 ≤ n) (h2 : n ≤ 64) : Calls Try.prog 8 #[.int .i64 n] w fun e w' => ∃ C, e = .returned (.tuple #[.pointer (some ⟨C, 0, none⟩), .int .i64 0]) ∧ OW w0 C 0 (rep n) w' :=
  (oc_new w n h1 h2).mono fun e w' ⟨C, S, he, ho, hb', hs⟩ => ⟨C, he, S, ho, hb.trans (hb'.mono hb.size), fun b hb2 => by have := hs b hb2; have := hb.size; omega⟩
theorem ow_set (h : OW w0 C now L w) (a t : Int) (ha : -9223372036854775808 ≤ a ∧ a ≤ 9223372036854775807) : Calls Try.prog 17 #[.pointer (some ⟨C, 0, none⟩), .int .i64 a, .int .i64 t] w fun e w' =>
    e = .returned (.int .i64 (setR (L.length : Nat) now a t)) ∧ OW w0 C now (rsetL now L a t) w' := by
  obtain ⟨S, h1, h2, h3⟩ := h
  exact (oc_set h1 a t ha).mono fun e w' ⟨he, S', q1, q2, q3⟩ => ⟨he, OW.step h2 h3 q1 q2 q3⟩
theorem ow_stop (h : OW w0 C now L w) (a : Int) (ha : -9223372036854775808 ≤ a ∧ a ≤ 9223372036854775807) : Calls Try.prog 18 #[.pointer (some ⟨C, 0, none⟩), .int .i64 a] w fun e w' =>
    e = .returned (.bool (isL L a)) ∧ OW w0 C now (rstopL L a) w' := by
  obtain ⟨S, h1, h2, h3⟩ := h
  exact (oc_stop h1 a ha).mono fun e w' ⟨he, S', q1, q2, q3⟩ => ⟨he, OW.step h2 h3 q1 q2 q3⟩
theorem ow_next (h : OW w0 C now L w) : Calls Try.prog 19 #[.pointer (some ⟨C, 0, none⟩)] w fun e w' =>
    e = .returned (.tuple #[.int .i64 (hdL L).1, .int .i64 (hdL L).2.1, .bool (hdL L).2.2]) ∧ OW w0 C now L w' := by
  have h' := h
  obtain ⟨S, h1, h2, h3⟩ := h'
  exact (oc_next h1).mono fun e w' ⟨he, q⟩ => ⟨he, h.later q⟩
theorem ow_now (h : OW w0 C now L w) : Calls Try.prog 15 #[.pointer (some ⟨C, 0, none⟩)] w fun e w' => e = .returned (.int .i64 now) ∧ OW w0 C now L w' := by
  have h' := h
  obtain ⟨S, h1, h2, h3⟩ := h'
  exact (oc_now h1).mono fun e w' ⟨he, q⟩ => ⟨he, h.later q⟩
theorem ow_len (h : OW w0 C now L w) : Calls Try.prog 16 #[.pointer (some ⟨C, 0, none⟩)] w fun e w' => e = .returned (.int .i64 (cnt L L.length : Nat)) ∧ OW w0 C now L w' := by
  have h' := h
  obtain ⟨S, h1, h2, h3⟩ := h'
  exact (oc_len h1).mono fun e w' ⟨he, q⟩ => ⟨he, h.later q⟩
theorem ow_at (h : OW w0 C now L w) (a : Int) (ha : -9223372036854775808 ≤ a ∧ a ≤ 9223372036854775807) : Calls Try.prog 20 #[.pointer (some ⟨C, 0, none⟩), .int .i64 a] w fun e w' => e = .returned (.tuple #[.int .i64 (atL L a), .bool (isL L a)]) ∧ OW w0 C now L w' := by
  have h' := h
  obtain ⟨S, h1, h2, h3⟩ := h'
  exact (oc_at h1 a ha).mono fun e w' ⟨he, q⟩ => ⟨he, h.later q⟩
/-- time goes by: what rings lies in a row of its own -/
def AdvW (w0 : World) (C : Nat) (now : Int) (L : List Int) (dt : Int) (w : World) (e : Ending) (w' : World) : Prop :=
  ((dt < 0 ∨ 4611686018427387904 - now < dt) ∧ e = .returned (.tuple #[.slice none 0 0, .int .i64 3]) ∧ OW w0 C now L w') ∨
  (¬ (dt < 0 ∨ 4611686018427387904 - now < dt) ∧ ∃ a cap, e = .returned (.tuple #[.slice a (ring (now + dt) L.length L).1.length cap, .int .i64 0]) ∧ OW w0 C (now + dt) (ring (now + dt) L.length L).2 w' ∧ SlA .i64 w' a (ring (now + dt) L.length L).1.length cap (ring (now + dt) L.length L).1)
theorem ow_adv (h : OW w0 C now L w) (dt : Int) (hdt : -9223372036854775808 ≤ dt ∧ dt ≤ 9223372036854775807) : Calls Try.prog 13 #[.pointer (some ⟨C, 0, none⟩), .int .i64 dt] w (AdvW w0 C now L dt w) := by
  have h' := h
  obtain ⟨S, h1, h2, h3⟩ := h'
  refine (oc_adv h1 dt hdt).mono fun e w' hp => ?_
  rcases hp with ⟨hc, he, rfl⟩ | ⟨hc, S', v, he, q1, q2, q3, q4, q5⟩
  · exact .inl ⟨hc, he, h⟩
  · obtain ⟨a, cap, rfl, hs⟩ := row_sl q4
    exact .inr ⟨hc, a, cap, he, OW.step h2 h3 q1 q2 q3, hs⟩
end
theorem sl_tri (W : World) : SlA .i64 (W.alloc (.cells #[.int .i64 2, .int .i64 0, .int .i64 1] 3)) (some ⟨W.heap.size, 0, none⟩) 3 3 [2, 0, 1] := by
  have := sl_new .i64 3 W [2, 0, 1] (by simp [maxLen])
  simpa [ints] using this
set_option maxRecDepth 100000 in
set_option maxHeartbeats 4000000 in
theorem known_any (w : World) : Calls Try.prog 7 #[] w (RetB true w) := by
  have HT := Lib.hid sl_tri
  have A1 := Lib.hid (show setR ((rep 3).length : Nat) 0 1 5 = 0 by decide)
  have A2 := Lib.hid (show rsetL 0 (rep 3) 1 5 = [-1, 5, -1] by decide)
  have A3 := Lib.hid (show setR (([-1, 5, -1] : List Int).length : Nat) 0 0 5 = 0 by decide)
  have A4 := Lib.hid (show rsetL 0 [-1, 5, -1] 0 5 = [5, 5, -1] by decide)
  have A5 := Lib.hid (show setR (([5, 5, -1] : List Int).length : Nat) 0 2 3 = 0 by decide)
  have A6 := Lib.hid (show rsetL 0 [5, 5, -1] 2 3 = [5, 5, 3] by decide)
  have A7 := Lib.hid (show hdL [5, 5, 3] = (2, 3, true) by decide)
  have A8 := Lib.hid (show ring (0 + 5) ([5, 5, 3] : List Int).length [5, 5, 3] = ([2, 0, 1], [-1, -1, -1]) by decide)
  go_enter Try.func7, Try.ntmps7
  go_wp2_with fail
  refine (ow_new (Below.refl _ w) 3 (by omega) (by omega)).mono ?_
  rintro e w1 ⟨C, rfl, h1⟩
  have H1 := Lib.hid h1
  clear h1
  go_wp2_with fail
  refine (ow_set H1.out 1 5 (by omega)).mono ?_
  rintro e w2 ⟨rfl, h2⟩
  rw [A1.out]
  rw [A2.out] at h2
  have H2 := Lib.hid h2
  clear h2 H1 A1 A2
  go_wp2_with fail
  refine (ow_set H2.out 0 5 (by omega)).mono ?_
  rintro e w3 ⟨rfl, h3⟩
  rw [A3.out]
  rw [A4.out] at h3
  have H3 := Lib.hid h3
  clear h3 H2 A3 A4
  go_wp2_with fail
  refine (ow_set H3.out 2 3 (by omega)).mono ?_
  rintro e w4 ⟨rfl, h4⟩
  rw [A5.out]
  rw [A6.out] at h4
  have H4 := Lib.hid h4
  clear h4 H3 A5 A6
  go_wp2_with fail
  refine (ow_next H4.out).mono ?_
  rintro e w5 ⟨rfl, h5⟩
  rw [A7.out]
  have H5 := Lib.hid h5
  clear h5 H4 A7
  go_wp2_with fail
  refine (ow_adv H5.out 5 (by omega)).mono ?_
  intro e w6 h6
  unfold AdvW at h6
  rw [A8.out] at h6
  rcases h6 with ⟨h6, _⟩ | ⟨_, a, cap, rfl, h6, hs⟩
  · omega
  have H6 := Lib.hid (And.intro h6 hs)
  clear h6 hs H5 A8
  go_wp2_with fail
  refine (same_any (H6.out.2.later (bal _)) (HT.out w6)).mono ?_
  rintro e w7 ⟨rfl, b7⟩
  have H7 := Lib.hid ((H6.out.1.later (bal _)).later b7)
  clear b7 H6 HT
  rw [show (decide (([2, 0, 1] : List Int) = [2, 0, 1])) = true by decide]
  go_wp2_with fail
  refine (ow_now H7.out).mono ?_
  rintro e w8 ⟨rfl, h8⟩
  have H8 := Lib.hid h8.below
  clear h8 H7
  go_wp2_with fail
  go_ret
  exact ⟨rfl, H8.out⟩
theorem adv_nil (w : World) (n : Int) : Calls Try.prog 13 #[.pointer none, .int .i64 n] w fun e w' => e = .returned (.tuple #[.slice none 0 0, .int .i64 1]) ∧ w = w' := by
  go_enter Try.func13, Try.ntmps13
  go_wp2_with fail
  go_ret2
  exact ⟨rfl, rfl⟩
set_option maxRecDepth 100000 in
set_option maxHeartbeats 4000000 in
theorem walk_AlarmNone {w : World} (z : Int) (hz : -9223372036854775808 ≤ z ∧ z ≤ 9223372036854775807) (n : Int) (hn : -9223372036854775808 ≤ n ∧ n ≤ 9223372036854775807) :
    Calls Try.prog 6 #[.int .i64 z, .int .i64 n] w fun e w' => e = .returned (.bool true) ∧ Below w.heap.size w w' := by
  go_enter Try.func6, Try.ntmps6
  go_wp2_with fail
  refine (known_any w).mono ?_
  rintro e w1 ⟨rfl, b1⟩
  go_wp2_with fail
  refine (at_nil w1 z).mono ?_
  rintro e w2 ⟨rfl, b2⟩
  replace b2 := b1.trans (b2.mono b1.size)
  clear b1
  go_wp2_with fail
  refine (next_nil w2).mono ?_
  rintro e w3 ⟨rfl, b3⟩
  replace b3 := b2.trans (b3.mono b2.size)
  clear b2
  go_wp2_with fail
  refine (adv_nil w3 n).mono ?_
  rintro e w4 ⟨rfl, rfl⟩
  go_wp2_with fail
  refine (set_nil w3 z n).mono ?_
  rintro e w5 ⟨rfl, b5⟩
  replace b5 := b3.trans (b5.mono b3.size)
  clear b3
  go_wp2_with fail
  refine (stop_nil w5 z).mono ?_
  rintro e w6 ⟨rfl, b6⟩
  replace b6 := b5.trans (b6.mono b5.size)
  clear b5
  go_wp2_with fail
  refine (now_nil w6).mono ?_
  rintro e w7 ⟨rfl, b7⟩
  replace b7 := b6.trans (b7.mono b6.size)
  clear b6
  go_wp2_with fail
  refine (clen_nil w7).mono ?_
  rintro e w8 ⟨rfl, b8⟩
  replace b8 := b7.trans (b8.mono b7.size)
  clear b7
  go_wp2_with fail
  refine (cclone_nil w8).mono ?_
  rintro e w9 ⟨rfl, rfl⟩
  go_wp2_with fail
  refine (known_any w8).mono ?_
  rintro e w10 ⟨rfl, b10⟩
  replace b10 := b8.trans (b10.mono b8.size)
  clear b8
  go_wp2_with fail
  go_ret
  exact ⟨rfl, b10⟩
end Go.Proofs.Ytnioaaahkhephaa.al
