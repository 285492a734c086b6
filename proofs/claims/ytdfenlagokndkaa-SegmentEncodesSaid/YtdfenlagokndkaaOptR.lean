/-
  Package option: what bytes say: the pieces of Parse.
-/
import Derived.Test.YtdfenlagokndkaaOctR
import Derived.Test.YtdfenlagokndkaaOptW
namespace Go.Proofs.Ytdfenlagokndkaa.op
open Go.RowKit aid mem oc
set_option linter.unusedVariables false

set_option maxHeartbeats 800000 in
theorem fits_any (k n : Int) (w : World) (hk : 0 ≤ k ∧ k ≤ 255) (hn : 2 ≤ n ∧ n ≤ 255) :
    Calls Try.prog 116 #[.int .u8 k, .int .i64 n] w fun e w' => e = .returned (.bool (fits k n)) ∧ w = w' := by
  have HF : ∀ b, fits k n = b → Hid (b = fits k n) := fun b h => Lib.hid h.symm
  go_enter Try.func116, Try.ntmps116
  go_wp2
  all_goals go_ret
  all_goals
    refine ⟨ret_b ?_, rfl⟩
    unfold fits
    (repeat' split) <;> first | rfl | omega | (simp_all; done) | (rw [Bool.eq_iff_iff]; simp; omega) | (simp_all; omega)

/-- what comes of a piece that is taken -/
def TakeNo (p : Nat) (c : Int) (w : World) (e : Ending) (w' : World) : Prop := e = .returned (.tuple #[.slice none 0 0, .int .i64 c]) ∧ Kept [p] w w'

theorem rone_cons (p : Nat) (S : List Nat) (x : Int) (l : List Int) (w : World) (hr : Rd w p S (x :: l)) (hb : Bd (x :: l)) :
    Calls Try.prog 86 #[.pointer (some ⟨p, 0, none⟩)] w fun e w' => e = .returned (.tuple #[.int .u8 x, .int .i64 0]) ∧ Rd w' p S l ∧ Kept [p] w w' := by
  have hx := hb x (by simp)
  refine (rone_some p S (x :: l) w hr hb (by simp)).mono ?_
  rintro e w1 ⟨rfl, hr1, hk1⟩
  simp only [List.drop_succ_cons, List.drop_zero] at hr1
  refine ⟨?_, hr1, hk1⟩
  have e : num ((x :: l).take 1) % 256 = x := by simp [num]; omega
  show Ending.returned (.tuple #[.int .u8 (num ((x :: l).take 1) % 256), .int .i64 0]) = _
  rw [e]
theorem rtwo_cons (p : Nat) (S : List Nat) (x y : Int) (l : List Int) (w : World) (hr : Rd w p S (x :: y :: l)) (hb : Bd (x :: y :: l)) :
    Calls Try.prog 88 #[.pointer (some ⟨p, 0, none⟩)] w fun e w' => e = .returned (.tuple #[.int .u16 (x * 256 + y), .int .i64 0]) ∧ Rd w' p S l ∧ Kept [p] w w' := by
  have hx := hb x (by simp)
  have hy := hb y (by simp)
  refine (rtwo_some p S (x :: y :: l) w hr hb (by simp)).mono ?_
  rintro e w1 ⟨rfl, hr1, hk1⟩
  simp only [List.drop_succ_cons, List.drop_zero] at hr1
  refine ⟨?_, hr1, hk1⟩
  have e : num ((x :: y :: l).take 2) % 65536 = x * 256 + y := by simp [num]; omega
  show Ending.returned (.tuple #[.int .u16 (num ((x :: y :: l).take 2) % 65536), .int .i64 0]) = _
  rw [e]
theorem rfour_cons (p : Nat) (S : List Nat) (x y z u : Int) (l : List Int) (w : World) (hr : Rd w p S (x :: y :: z :: u :: l)) (hb : Bd (x :: y :: z :: u :: l)) :
    Calls Try.prog 89 #[.pointer (some ⟨p, 0, none⟩)] w fun e w' => e = .returned (.tuple #[.int .u32 (n4 x y z u), .int .i64 0]) ∧ Rd w' p S l ∧ Kept [p] w w' := by
  have hx := hb x (by simp)
  have hy := hb y (by simp)
  have hz := hb z (by simp)
  have hu := hb u (by simp)
  refine (rfour_some p S (x :: y :: z :: u :: l) w hr hb (by simp)).mono ?_
  rintro e w1 ⟨rfl, hr1, hk1⟩
  simp only [List.drop_succ_cons, List.drop_zero] at hr1
  refine ⟨?_, hr1, hk1⟩
  have e : num ((x :: y :: z :: u :: l).take 4) = n4 x y z u := by simp [num, n4]; omega
  show Ending.returned (.tuple #[.int .u32 (num ((x :: y :: z :: u :: l).take 4)), .int .i64 0]) = _
  rw [e]

set_option maxHeartbeats 800000 in
theorem take_e1 (p : Nat) (S : List Nat) (k : Int) (w : World) (hr : Rd w p S []) :
    Calls Try.prog 107 #[.pointer (some ⟨p, 0, none⟩), .int .u8 k] w (TakeNo p 5 w) := by
  go_enter Try.func107, Try.ntmps107
  go_wp2_with fail
  refine (rone_short p S [] w hr (by simp)).mono ?_
  rintro e w' ⟨rfl, rfl⟩
  go_wp2_with fail
  go_ret2
  exact ⟨rfl, Kept.refl _ _⟩
set_option maxHeartbeats 800000 in
theorem take_e2 (p : Nat) (S : List Nat) (k n : Int) (q : List Int) (w : World) (hr : Rd w p S (n :: q)) (hb : Bd (n :: q)) (h : n < 2) :
    Calls Try.prog 107 #[.pointer (some ⟨p, 0, none⟩), .int .u8 k] w (TakeNo p 6 w) := by
  have hn := hb n (by simp)
  go_enter Try.func107, Try.ntmps107
  go_wp2_with fail
  refine (rone_cons p S n q w hr hb).mono ?_
  rintro e w1 ⟨rfl, hr1, hk1⟩
  go_wp2_with fail
  go_ret2
  exact ⟨rfl, hk1⟩
set_option maxHeartbeats 800000 in
theorem take_e3 (p : Nat) (S : List Nat) (k n : Int) (q : List Int) (w : World) (hr : Rd w p S (n :: q)) (hb : Bd (n :: q)) (h : 2 ≤ n) (hl : (q.length : Int) < n - 2) :
    Calls Try.prog 107 #[.pointer (some ⟨p, 0, none⟩), .int .u8 k] w (TakeNo p 5 w) := by
  have hn := hb n (by simp)
  have hnl : ¬ n < 2 := by omega
  go_enter Try.func107, Try.ntmps107
  go_wp2_with fail
  refine (rone_cons p S n q w hr hb).mono ?_
  rintro e w1 ⟨rfl, hr1, hk1⟩
  go_wp2_with fail
  refine (take_short p S q (n - 2) w1 hr1 hl).mono ?_
  rintro e w2 ⟨v, rfl, hown, hbel⟩
  obtain ⟨av, cv, hv⟩ := own_form hown
  subst hv
  have hk2 := hk1.trans (Kept.of_below hbel (Nat.le_refl _) []) (by simp)
  go_wp2_with fail
  go_ret2
  exact ⟨rfl, hk2⟩
set_option maxHeartbeats 800000 in
theorem take_e4 (p : Nat) (S : List Nat) (k n : Int) (q : List Int) (w : World) (hk : 0 ≤ k ∧ k ≤ 255) (hr : Rd w p S (n :: q)) (hb : Bd (n :: q)) (h : 2 ≤ n) (hl : ¬ (q.length : Int) < n - 2) (hf : fits k n = false) :
    Calls Try.prog 107 #[.pointer (some ⟨p, 0, none⟩), .int .u8 k] w (TakeNo p 6 w) := by
  have hn := hb n (by simp)
  have hnl : ¬ n < 2 := by omega
  obtain ⟨m, hm⟩ := Int.eq_ofNat_of_zero_le (show 0 ≤ n - 2 by omega)
  have HM := Lib.hid hm
  have hml : m ≤ q.length := by omega
  clear hm
  go_enter Try.func107, Try.ntmps107
  go_wp2_with fail
  refine (rone_cons p S n q w hr hb).mono ?_
  rintro e w1 ⟨rfl, hr1, hk1⟩
  go_wp2_with fail
  rw [HM.out]
  refine (take_some p S q m w1 hr1 hml).mono ?_
  rintro e w2 ⟨v, rfl, hown, hr2, hk2⟩
  obtain ⟨av, cv, hv⟩ := own_form hown
  subst hv
  have hk3 := hk1.trans hk2 (fun x hx => .inl hx)
  go_wp2_with fail
  refine (fits_any k n w2 hk ⟨h, by omega⟩).mono ?_
  rintro e w' ⟨rfl, rfl⟩
  rw [hf]
  go_wp2_with fail
  go_ret2
  exact ⟨rfl, hk3⟩
/-- a piece, in new memory -/
def TakeYes (p : Nat) (S : List Nat) (q : List Int) (m : Nat) (w : World) (e : Ending) (w' : World) : Prop :=
  ∃ a cap, e = .returned (.tuple #[.slice a m cap, .int .i64 0]) ∧ w'.ownsRow w.heap.size 5 1 (.slice a m cap) m (ints .u8 (q.take m)) ∧ Rd w' p S (q.drop m) ∧ Kept [p] w w'
set_option maxHeartbeats 800000 in
theorem take_ok (p : Nat) (S : List Nat) (k n : Int) (m : Nat) (q : List Int) (w : World) (hk : 0 ≤ k ∧ k ≤ 255) (hr : Rd w p S (n :: q)) (hb : Bd (n :: q)) (hm : n - 2 = m) (hl : m ≤ q.length) (hf : fits k n = true) :
    Calls Try.prog 107 #[.pointer (some ⟨p, 0, none⟩), .int .u8 k] w (TakeYes p S q m w) := by
  have hn := hb n (by simp)
  have h2 : 2 ≤ n := by omega
  have hnl : ¬ n < 2 := by omega
  have HM := Lib.hid hm
  clear hm
  obtain ⟨_, _, hc0, _⟩ := hr.ex
  have hp := World.block_lt_of_cell? w _ hc0
  clear hc0
  go_enter Try.func107, Try.ntmps107
  go_wp2_with fail
  refine (rone_cons p S n q w hr hb).mono ?_
  rintro e w1 ⟨rfl, hr1, hk1⟩
  go_wp2_with fail
  rw [HM.out]
  refine (take_some p S q m w1 hr1 hl).mono ?_
  rintro e w2 ⟨v, rfl, hown, hr2, hk2⟩
  obtain ⟨av, cv, hv⟩ := own_form hown
  subst hv
  have z1 := hk1.size
  have hown' := own_base (base' := w.heap.size) hown (fun g hg => by have := (hown.lt g hg).1; omega)
  have hk3 := hk1.trans hk2 (fun x hx => .inl hx)
  clear hown
  go_wp2_with fail
  refine (fits_any k n w2 hk ⟨h2, by omega⟩).mono ?_
  rintro e w' ⟨rfl, rfl⟩
  rw [hf]
  go_wp2_with fail
  go_ret2
  exact ⟨av, cv, rfl, hown', hr2, hk3⟩
end Go.Proofs.Ytdfenlagokndkaa.op
