/-
  Package probe: a probe in memory; its calls.
-/
import Derived.Test.YtbmbibkomedooaaSpnR
import Derived.Test.YtbmbibkomedooaaOwn
import Derived.Laws.StructEq
import Derived.Deep.DrawnRows
import Derived.Laws.EntriesVeiled
import Derived.BigQuiet
namespace Go.Proofs.Ytbmbibkomedooaa.pb
open Go.RowKit aid mem sp
attribute [local go_sem ↓] Go.wp_at_zero Go.wp_at_succ
set_option linter.unusedVariables false

structure Pb where
  on : Bool
  again : Bool
  fin : Int
def Pb.off : Pb := ⟨false, false, 0⟩
abbrev cellsP (p : Pb) : Array Value := #[.bool p.on, .bool p.again, .int .i64 p.fin]
/-- block B holds a probe -/
def PbAt (w : World) (B : Nat) (p : Pb) : Prop := w.heap[B]? = some (.cells (cellsP p) 27 (0, 0))
section
variable {w : World} {B : Nat} {p : Pb} (h : PbAt w B p)
include h
theorem PbAt.c0 : w.cell? ⟨B, 0, none⟩ = some (.bool p.on) := (cell_of_row w B 0 _ _ (0, 0) h).trans rfl
theorem PbAt.c1 : w.cell? ⟨B, 1, none⟩ = some (.bool p.again) := (cell_of_row w B 1 _ _ (0, 0) h).trans rfl
theorem PbAt.c2 : w.cell? ⟨B, 2, none⟩ = some (.int .i64 p.fin) := (cell_of_row w B 2 _ _ (0, 0) h).trans rfl
theorem PbAt.f (i : Nat) : w.frozen? ⟨B, i, none⟩ = false := by simp [World.frozen?, show w.heap[B]? = _ from h]
theorem PbAt.keep {S : List Nat} {w' : World} (hk : Kept S w w') (hb : B ∉ S) : PbAt w' B p := hk.heap hb h
theorem PbAt.later {w' : World} (hk : Below w.heap.size w w') : PbAt w' B p := (hk.block B (lt_of_block h)).trans h
theorem PbAt.lt : B < w.heap.size := lt_of_block h
end
theorem PbAt.put {w : World} {B : Nat} {p : Pb} (h : PbAt w B p) (a b : Bool) (n : Int) : PbAt (((w.setCell ⟨B, 0, none⟩ (.bool a)).setCell ⟨B, 1, none⟩ (.bool b)).setCell ⟨B, 2, none⟩ (.int .i64 n)) B ⟨a, b, n⟩ :=
  (heap_setCell_same _ B 2 _ _ _ (heap_setCell_same _ B 1 _ _ _ (heap_setCell_same _ B 0 _ _ _ h))).trans rfl
theorem kp3 (w : World) (B : Nat) (a b c : Value) : Kept [B] w (((w.setCell ⟨B, 0, none⟩ a).setCell ⟨B, 1, none⟩ b).setCell ⟨B, 2, none⟩ c) :=
  (((Kept.refl [B] w).setCell (.inl (by simp)) a).setCell (.inl (by simp)) b).setCell (.inl (by simp)) c
/-- behind a call that writes the probe at B -/
def RetP (v : Value) (B : Nat) (p' : Pb) (w : World) (e : Ending) (w' : World) : Prop := e = .returned v ∧ PbAt w' B p' ∧ Kept [B] w w'

/-- what an answer says, from a question on -/
def qB (p : Pb) (ack : Int) (isDup : Bool) (d : Int × Int) (bare : Bool) : Nat → Bool
  | 0 => p.again && isDup && decide (0 < lenI d) && decide (d.2 = p.fin)
  | 1 => decide (ack < p.fin)
  | 2 => !p.again
  | 3 => decide (p.fin < ack)
  | _ => bare
def qV : Nat → Int
  | 0 => 1
  | 1 => 0
  | 2 => 1
  | 3 => 2
  | _ => 1
def asks (p : Pb) (ack : Int) (isDup : Bool) (d : Int × Int) (bare : Bool) : Int :=
  if qB p ack isDup d bare 0 then 1 else if qB p ack isDup d bare 1 then 0 else if qB p ack isDup d bare 2 then 1 else if qB p ack isDup d bare 3 then 2 else if qB p ack isDup d bare 4 then 1 else 0
def tellN (p : Pb) (ack : Int) (isDup : Bool) (d : Int × Int) (bare : Bool) : Int := if p.on then asks p ack isDup d bare else 0
def tellP (p : Pb) (ack : Int) (isDup : Bool) (d : Int × Int) (bare : Bool) : Pb := if tellN p ack isDup d bare = 0 then p else Pb.off
theorem asks_cases (p : Pb) (ack : Int) (isDup : Bool) (d : Int × Int) (bare : Bool) : asks p ack isDup d bare = 0 ∨ asks p ack isDup d bare = 1 ∨ asks p ack isDup d bare = 2 := by
  unfold asks
  repeat' split
  all_goals simp

/-! what is asked of one -/
theorem on_eq {w : World} {B : Nat} {p : Pb} (h : PbAt w B p) : Calls Try.prog 15 #[.pointer (some ⟨B, 0, none⟩)] w fun e w' => e = .returned (.bool p.on) ∧ w = w' := by
  have c0 := h.c0
  go_enter Try.func15, Try.ntmps15
  go_wp2
  go_ret
  exact ⟨rfl, rfl⟩
theorem again_eq {w : World} {B : Nat} {p : Pb} (h : PbAt w B p) : Calls Try.prog 17 #[.pointer (some ⟨B, 0, none⟩)] w fun e w' => e = .returned (.bool p.again) ∧ w = w' := by
  have c0 := h.c1
  go_enter Try.func17, Try.ntmps17
  go_wp2
  go_ret
  exact ⟨rfl, rfl⟩
theorem end_eq {w : World} {B : Nat} {p : Pb} (h : PbAt w B p) : Calls Try.prog 16 #[.pointer (some ⟨B, 0, none⟩)] w fun e w' => e = .returned (.int .i64 p.fin) ∧ w = w' := by
  have c0 := h.c2
  go_enter Try.func16, Try.ntmps16
  go_wp2
  go_ret
  exact ⟨rfl, rfl⟩
theorem stop_any {w : World} {B : Nat} {p : Pb} (h : PbAt w B p) : Calls Try.prog 12 #[.pointer (some ⟨B, 0, none⟩)] w
    (RetP (.bool p.on) B (if p.on then Pb.off else p) w) := by
  have HO := Lib.hid (on_eq h)
  have c0 := h.c0; have c1 := h.c1; have c2 := h.c2; have f0 := h.f 0; have f1 := h.f 1; have f2 := h.f 2
  obtain ⟨on, again, fin⟩ := p
  have HB := Lib.hid h
  clear h
  dsimp only at c0 c1 c2
  cases on with
  | false =>
    go_enter Try.func12, Try.ntmps12
    go_wp2_with (go_at_call 15; (with_reducible refine HO.out.mono ?_); rintro e w1 ⟨rfl, rfl⟩)
    go_ret
    exact ⟨rfl, HB.out, Kept.refl _ _⟩
  | true =>
    go_enter Try.func12, Try.ntmps12
    go_wp2_with (go_at_call 15; (with_reducible refine HO.out.mono ?_); rintro e w1 ⟨rfl, rfl⟩)
    go_ret
    exact ⟨rfl, HB.out.put false false 0, kp3 _ _ _ _ _⟩
/-- Start's answer -/
def stE (p : Pb) (n : Int) : Int := if p.on then 13 else if n < 0 ∨ 4611686018427387904 < n then 3 else 0
def stP (p : Pb) (n : Int) (g : Bool) : Pb := if stE p n = 0 then ⟨true, g, n⟩ else p
theorem start_any {w : World} {B : Nat} {p : Pb} (h : PbAt w B p) (n : Int) (g : Bool) : Calls Try.prog 11 #[.pointer (some ⟨B, 0, none⟩), .int .i64 n, .bool g] w
    (RetP (.int .i64 (stE p n)) B (stP p n g) w) := by
  have c0 := h.c0; have c1 := h.c1; have c2 := h.c2; have f0 := h.f 0; have f1 := h.f 1; have f2 := h.f 2
  obtain ⟨on, again, fin⟩ := p
  have HB := Lib.hid h
  clear h
  dsimp only at c0 c1 c2
  cases on with
  | true =>
    go_enter Try.func11, Try.ntmps11
    go_wp2
    go_ret
    exact ⟨rfl, HB.out, Kept.refl _ _⟩
  | false =>
    by_cases h1 : n < 0
    · have H : stE ⟨false, again, fin⟩ n = 3 := by unfold stE; rw [if_neg (by simp), if_pos (.inl h1)]
      have HP : stP ⟨false, again, fin⟩ n g = ⟨false, again, fin⟩ := by unfold stP; rw [H]; rfl
      rw [H, HP]
      clear H HP
      go_enter Try.func11, Try.ntmps11
      go_wp2
      go_ret
      exact ⟨rfl, HB.out, Kept.refl _ _⟩
    · by_cases h2 : 4611686018427387904 < n
      · have H : stE ⟨false, again, fin⟩ n = 3 := by unfold stE; rw [if_neg (by simp), if_pos (.inr h2)]
        have HP : stP ⟨false, again, fin⟩ n g = ⟨false, again, fin⟩ := by unfold stP; rw [H]; rfl
        rw [H, HP]
        clear H HP
        go_enter Try.func11, Try.ntmps11
        go_wp2
        go_ret
        exact ⟨rfl, HB.out, Kept.refl _ _⟩
      · have H : stE ⟨false, again, fin⟩ n = 0 := by unfold stE; rw [if_neg (by simp), if_neg (by omega)]
        have HP : stP ⟨false, again, fin⟩ n g = ⟨true, g, n⟩ := by unfold stP; rw [H]; rfl
        rw [H, HP]
        clear H HP
        go_enter Try.func11, Try.ntmps11
        go_wp2
        go_ret
        exact ⟨rfl, HB.out.put true g n, kp3 _ _ _ _ _⟩
theorem within_eq (n lo : Int) (w : World) : Calls Try.prog 18 #[.int .i64 n, .int .i64 lo] w fun e w' => e = .returned (.int .i64 (min (max n lo) 68719476736)) ∧ w = w' := by
  go_enter Try.func18, Try.ntmps18
  by_cases h1 : n < lo
  · go_wp2
    all_goals
      go_ret
      exact ⟨ret_i (by omega), rfl⟩
  · go_wp2
    all_goals
      go_ret
      exact ⟨ret_i (by omega), rfl⟩
/-- how long nothing must come -/
def wt (srtt : Int) (has one : Bool) (delay : Int) : Int :=
  if has then min (max (2 * min (max srtt 0) 68719476736 + if one then min (max delay 0) 68719476736 else 0) 1) 68719476736 else 1000000
theorem wait_eq (srtt : Int) (has one : Bool) (delay : Int) (w : World) : Calls Try.prog 8 #[.int .i64 srtt, .bool has, .bool one, .int .i64 delay] w fun e w' => e = .returned (.int .i64 (wt srtt has one delay)) ∧ w = w' := by
  have HW := Lib.hid (fun a b W => within_eq a b W)
  have e1 : 0 ≤ min (max srtt 0) 68719476736 ∧ min (max srtt 0) 68719476736 ≤ 68719476736 := by omega
  have e2 : 0 ≤ min (max delay 0) 68719476736 ∧ min (max delay 0) 68719476736 ≤ 68719476736 := by omega
  have HE := Lib.hid (show wt srtt has one delay = if has then min (max (2 * min (max srtt 0) 68719476736 + if one then min (max delay 0) 68719476736 else 0) 1) 68719476736 else 1000000 from rfl)
  have H1 := Lib.hid (show ∀ W, Calls Try.prog 18 #[.int .i64 srtt, .int .i64 0] W fun e w' => e = .returned (.int .i64 (min (max srtt 0) 68719476736)) ∧ W = w' from fun W => within_eq _ _ W)
  have H2 := Lib.hid (show ∀ W, Calls Try.prog 18 #[.int .i64 delay, .int .i64 0] W fun e w' => e = .returned (.int .i64 (min (max delay 0) 68719476736)) ∧ W = w' from fun W => within_eq _ _ W)
  rw [HE.out]
  clear HE
  generalize min (max srtt 0) 68719476736 = a at *
  generalize min (max delay 0) 68719476736 = b at *
  obtain ⟨a0, a1⟩ := e1
  obtain ⟨b0, b1⟩ := e2
  cases has with
  | false =>
    go_enter Try.func8, Try.ntmps8
    go_wp2
    go_ret
    exact ⟨rfl, rfl⟩
  | true =>
    cases one with
    | false =>
      go_enter Try.func8, Try.ntmps8
      go_wp2_with (first
        | (go_at_call 18; (with_reducible refine (H1.out _).mono ?_); rintro e w1 ⟨rfl, rfl⟩; clear H1)
        | (go_at_call 18; (with_reducible refine (HW.out _ _ _).mono ?_); rintro e w1 ⟨rfl, rfl⟩))
      go_ret
      exact ⟨ret_i (by simp), rfl⟩
    | true =>
      go_enter Try.func8, Try.ntmps8
      go_wp2_with (first
        | (go_at_call 18; (with_reducible refine (H1.out _).mono ?_); rintro e w1 ⟨rfl, rfl⟩; clear H1)
        | (go_at_call 18; (with_reducible refine (H2.out _).mono ?_); rintro e w1 ⟨rfl, rfl⟩; clear H2)
        | (go_at_call 18; (with_reducible refine (HW.out _ _ _).mono ?_); rintro e w1 ⟨rfl, rfl⟩))
      go_ret
      exact ⟨ret_i (by simp), rfl⟩
/-- a probe that is none -/
theorem none_eq (w : World) : (Calls Try.prog 15 #[.pointer none] w fun e w' => e = .returned (.bool false) ∧ w = w') ∧ (Calls Try.prog 16 #[.pointer none] w fun e w' => e = .returned (.int .i64 0) ∧ w = w') ∧ (Calls Try.prog 17 #[.pointer none] w fun e w' => e = .returned (.bool false) ∧ w = w') ∧ (∀ n g, Calls Try.prog 11 #[.pointer none, .int .i64 n, .bool g] w fun e w' => e = .returned (.int .i64 1) ∧ w = w') := by
  refine ⟨?_, ?_, ?_, fun n g => ?_⟩
  · go_enter Try.func15, Try.ntmps15
    go_wp2
    go_ret
    exact ⟨rfl, rfl⟩
  · go_enter Try.func16, Try.ntmps16
    go_wp2
    go_ret
    exact ⟨rfl, rfl⟩
  · go_enter Try.func17, Try.ntmps17
    go_wp2
    go_ret
    exact ⟨rfl, rfl⟩
  · go_enter Try.func11, Try.ntmps11
    go_wp2
    go_ret
    exact ⟨rfl, rfl⟩
theorem none_stop (w : World) : Calls Try.prog 12 #[.pointer none] w fun e w' => e = .returned (.bool false) ∧ w = w' := by
  have HN := Lib.hid (none_eq w)
  go_enter Try.func12, Try.ntmps12
  go_wp2_with (go_at_call 15; (with_reducible refine HN.out.1.mono ?_); rintro e w1 ⟨rfl, rfl⟩)
  go_ret
  exact ⟨rfl, rfl⟩
theorem none_told (w : World) (n : Int) (a b : Bool) (s : Int × Int) : Calls Try.prog 14 #[.pointer none, .int .i64 n, .bool a, spV s, .bool b] w fun e w' => e = .returned (.int .i64 0) ∧ Below w.heap.size w w' := by
  have HN := Lib.hid (fun w => none_eq w)
  go_enter Try.func14, Try.ntmps14
  go_wp2_with (go_at_call 15; (with_reducible refine (HN.out _).1.mono ?_); rintro e w1 ⟨rfl, rfl⟩)
  go_ret
  exact ⟨rfl, bal _⟩
end Go.Proofs.Ytbmbibkomedooaa.pb
