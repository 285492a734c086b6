/-
  Package option: Check, Encode.
-/
import Derived.Test.YtdfenlagokndkaaOptC
namespace Go.Proofs.Ytdfenlagokndkaa.op
open Go.RowKit aid mem oc
set_option linter.unusedVariables false

set_option maxHeartbeats 3200000 in
theorem check_any (o : Opt) (a : Option Addr) (n cap : Nat) (w : World) (hf : o.Fit) (hbl : BlA w a n cap o.bl) :
    Calls Try.prog 56 #[.agg (optCells o a n cap)] w fun e w' => e = .returned (.int .i64 (chk o)) ∧ Below w.heap.size w w' := by
  have hlen := hbl.len
  have hle := hbl.le
  have hmost := hbl.most
  unfold maxLen at hmost
  have HL := Lib.hid hlen
  have hbl1 := hbl.later ((Below.refl _ _).alloc (Nat.le_refl _) (.cells (optCells o a n cap) 25))
  have hb1 : Below w.heap.size w (w.alloc (.cells (optCells o a n cap) 25)) := (Below.refl _ _).alloc (Nat.le_refl _) _
  have hW : ∀ (v e s : Int) (h t : Bool), v = o.val → e = o.ecr → s = o.scale → h = o.hs → t = o.ts →
      Calls Try.prog 61 #[.agg #[.int .i64 o.mss, .bool o.permit, .bool t, .int .u32 v, .int .u32 e, .bool h, .int .i64 s, .slice a n cap]] (w.alloc (.cells #[.int .i64 o.mss, .bool o.permit, .bool t, .int .u32 v, .int .u32 e, .bool h, .int .i64 s, .slice a n cap] 25)) (SizePost o w) := by
    intro v e s h t e2 e3 e4 e5 e6
    subst e2 e3 e4 e5 e6
    exact (size_any o a n cap (w.alloc (.cells (optCells o a n cap) 25)) hf hbl1).mono fun e W' ⟨h1, h2⟩ => ⟨h1, hb1.trans (h2.mono (by simp))⟩
  have HSZ : Hid (¬ 4 < o.bl.length → sizeG o = size4 o) := Lib.hid (fun h => by unfold sizeG; rw [if_neg h])
  unfold optCells at hb1 ⊢
  clear hlen hbl hbl1
  go_enter Try.func56, Try.ntmps56
  go_wp2_with (go_at_call 80; refine (from0_any _ _ _).mono ?_; rintro e w' ⟨rfl, rfl⟩)
  any_goals (with_reducible refine (hW _ _ _ _ _ (by first | rfl | (symm; assumption)) (by first | rfl | (symm; assumption)) (by first | rfl | (symm; assumption)) (by first | rfl | (symm; assumption) | simp_all) (by first | rfl | (symm; assumption) | simp_all)).mono ?_)
  all_goals try (rintro e2 w2 ⟨rfl, hb2⟩)
  all_goals (try go_wp2_with fail)
  all_goals clear hW
  all_goals go_ret
  all_goals
    refine ⟨ret_i ?_, ?_⟩
    · have hL := HL.out
      have hS := HSZ.out
      clear HL HSZ
      unfold chk
      unfold from0B at *
      (repeat' split) <;> first | rfl | omega | (simp_all; done) | (simp_all; omega; done) | (simp only [decide_eq_true_eq, Decidable.not_not] at *; omega)
    · first | exact hb2 | exact (Below.refl _ _).alloc (Nat.le_refl _) _

/-- the bytes of options that may be -/
def EncPost (o : Opt) (w : World) (e : Ending) (w' : World) : Prop :=
  ∃ v, e = .returned (.tuple #[v, .int .i64 0]) ∧ w'.ownsRow w.heap.size 5 1 v (enc o).length (ints .u8 (enc o)) ∧ Below w.heap.size w w'

set_option maxHeartbeats 800000 in
theorem encode_ok (o : Opt) (a : Option Addr) (n cap : Nat) (w : World) (hf : o.Fit) (hbl : BlA w a n cap o.bl) (hc : chk o = 0) :
    Calls Try.prog 44 #[.agg (optCells o a n cap)] w (EncPost o w) := by
  have hn : n ≤ 4 := by
    have := hbl.len
    unfold chk at hc
    (repeat' split at hc) <;> omega
  have hbox := opt_new w o a n cap 25
  have hbl1 := hbl.later ((Below.refl _ _).alloc (Nat.le_refl _) (.cells (optCells o a n cap) 25))
  have hb1 : Below w.heap.size w (w.alloc (.cells (optCells o a n cap) 25)) := (Below.refl _ _).alloc (Nat.le_refl _) _
  have hC := check_any o a n cap (w.alloc (.cells (optCells o a n cap) 25)) hf hbl1
  rw [hc] at hC
  clear hc
  have hcells : optCells o a n cap = #[.int .i64 o.mss, .bool o.permit, .bool o.ts, .int .u32 o.val, .int .u32 o.ecr, .bool o.hs, .int .i64 o.scale, .slice a n cap] := rfl
  have HCE := Lib.hid hcells
  rw [hcells] at hC hbox hbl1 hb1 ⊢
  clear hcells
  go_enter Try.func44, Try.ntmps44
  go_wp2_with fail
  obtain ⟨w1, hw1⟩ : ∃ w1, (w.alloc (.cells #[.int .i64 o.mss, .bool o.permit, .bool o.ts, .int .u32 o.val, .int .u32 o.ecr, .bool o.hs, .int .i64 o.scale, .slice a n cap] 25)) = w1 := ⟨_, rfl⟩
  rw [hw1] at hC hbox hbl1 hb1 ⊢
  clear hw1
  have z1 := hb1.size
  refine hC.mono ?_
  rintro e w2 ⟨rfl, h2⟩
  have hbox2 := hbox.keep (Kept.of_below h2 (Nat.le_refl _) []) (by simp)
  have hbl2 := hbl1.later h2
  have hb2 := hb1.trans (h2.mono z1)
  have z2 := hb2.size
  obtain ⟨c0, c1, c2, c3, c4, c5, c6, c7⟩ := hbox2
  clear hbox hbl1 hC h2
  go_wp2_with fail
  rw [← HCE.out]
  refine (write_any o a n cap w2 hf hbl2 hn).mono ?_
  rintro e w3 ⟨p, S, rfl, hw, hp, hS, h3⟩
  have hb3 := hb2.trans (h3.mono z2)
  have z3 := hb3.size
  clear h3 c0 c1 c2 c3 c4 c5 c6 c7
  go_wp2_with fail
  refine (bytes_any p S (enc o) w3 hw).mono ?_
  rintro e w4 ⟨v, rfl, hown, h4⟩
  obtain ⟨a4, cap4, hv⟩ := own_form hown
  subst hv
  have hown' := own_base (base' := w.heap.size) hown (fun g hg => by have := (hown.lt g hg).1; omega)
  obtain ⟨L, hL⟩ : ∃ L, enc o = L := ⟨_, rfl⟩
  obtain ⟨m, hm⟩ : ∃ m, L.length = m := ⟨_, rfl⟩
  rw [hL, hm] at hown' ⊢
  clear hown
  go_wp2_with fail
  go_ret2
  exact ⟨.slice a4 m cap4, rfl, by rw [hL, hm]; exact hown', hb3.trans (h4.mono z3)⟩

set_option maxHeartbeats 800000 in
theorem encode_no (o : Opt) (a : Option Addr) (n cap : Nat) (w : World) (hf : o.Fit) (hbl : BlA w a n cap o.bl) (hc : chk o ≠ 0) :
    Calls Try.prog 44 #[.agg (optCells o a n cap)] w fun e w' => e = .returned (.tuple #[.slice none 0 0, .int .i64 (chk o)]) ∧ Below w.heap.size w w' := by
  have hbl1 := hbl.later ((Below.refl _ _).alloc (Nat.le_refl _) (.cells (optCells o a n cap) 25))
  have hb1 : Below w.heap.size w (w.alloc (.cells (optCells o a n cap) 25)) := (Below.refl _ _).alloc (Nat.le_refl _) _
  have hC := check_any o a n cap (w.alloc (.cells (optCells o a n cap) 25)) hf hbl1
  have hne : (chk o != 0) = true := by simpa using hc
  clear hc
  unfold optCells at hC hbl1 hb1 ⊢
  go_enter Try.func44, Try.ntmps44
  go_wp2_with fail
  refine hC.mono ?_
  rintro e w2 ⟨rfl, h2⟩
  have hb2 := hb1.trans (h2.mono hb1.size)
  clear h2 hb1 hC hbl1
  go_wp2_with fail
  go_ret2
  exact ⟨rfl, hb2⟩
end Go.Proofs.Ytdfenlagokndkaa.op
