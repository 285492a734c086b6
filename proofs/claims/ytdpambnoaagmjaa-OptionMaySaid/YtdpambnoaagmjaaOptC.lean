/-
  Package option: Size, Check, Encode; the reference's.
-/
import Derived.Test.YtdpambnoaagmjaaOptE
namespace Go.Proofs.Ytdpambnoaagmjaa.op
open Go.RowKit aid mem oc
set_option linter.unusedVariables false

def from0B (n lim : Int) : Bool := decide (0 ≤ n ∧ n ≤ lim)
theorem from0_any (n lim : Int) (w : World) :
    Calls Try.prog 38 #[.int .i64 n, .int .i64 lim] w fun e w' => e = .returned (.bool (from0B n lim)) ∧ w = w' := by
  by_cases h0 : 0 ≤ n
  · by_cases h1 : n ≤ lim
    · have e : Hid (from0B n lim = true) := Lib.hid (decide_eq_true ⟨h0, h1⟩)
      go_enter Try.func38, Try.ntmps38
      go_wp2
      go_ret
      exact ⟨ret_b (by rw [e.out]), rfl⟩
    · have e : Hid (from0B n lim = false) := Lib.hid (decide_eq_false (fun h => h1 h.2))
      go_enter Try.func38, Try.ntmps38
      go_wp2
      go_ret
      exact ⟨ret_b (by rw [e.out]), rfl⟩
  · have e : Hid (from0B n lim = false) := Lib.hid (decide_eq_false (fun h => h0 h.1))
    go_enter Try.func38, Try.ntmps38
    go_wp2
    go_ret
    exact ⟨ret_b (by rw [e.out]), rfl⟩

set_option maxHeartbeats 800000 in
theorem size_any (o : Opt) (a : Option Addr) (n cap : Nat) (w : World) (hf : o.Fit) (hbl : BlA w a n cap o.bl) :
    Calls Try.prog 27 #[.agg (optCells o a n cap)] w fun e w' => e = .returned (.int .i64 (sizeG o)) ∧ Below w.heap.size w w' := by
  have hlen := hbl.len
  have hle := hbl.le
  have hmost := hbl.most
  unfold maxLen at hmost
  have hbl1 := hbl.later ((Below.refl _ _).alloc (Nat.le_refl _) (.cells (optCells o a n cap) 40))
  have hb1 : Below w.heap.size w (w.alloc (.cells (optCells o a n cap) 40)) := (Below.refl _ _).alloc (Nat.le_refl _) _
  have hW := write_any o a n cap (w.alloc (.cells (optCells o a n cap) 40)) hf hbl1
  unfold optCells at hW hbl1 hb1 ⊢
  by_cases hn : 4 < n
  · have e : Hid (sizeG o = 0) := Lib.hid (by unfold sizeG; rw [if_pos (by omega)])
    have HL := Lib.hid hlen
    clear hlen hW hbl1
    go_enter Try.func27, Try.ntmps27
    go_wp2
    go_ret
    exact ⟨ret_i e.out.symm, (Below.refl _ _).alloc (Nat.le_refl _) _⟩
  · have e : Hid (sizeG o = (enc o).length) := Lib.hid (by unfold sizeG; rw [if_neg (by omega), enc_len])
    have HL := Lib.hid hlen
    have hW' := hW (by omega)
    clear hlen hW hbl1
    go_enter Try.func27, Try.ntmps27
    go_wp2_with fail
    refine hW'.mono ?_
    rintro e2 w2 ⟨p, S, rfl, hw, _, _, hb2⟩
    go_wp2_with fail
    refine (len_any p S (enc o) w2 hw).mono ?_
    rintro e2 w' ⟨rfl, rfl⟩
    go_wp2_with fail
    go_ret
    exact ⟨ret_i e.out.symm, hb1.trans (hb2.mono (by simp))⟩

set_option maxHeartbeats 1600000 in
theorem rbare_any (o : Opt) (a : Option Addr) (n cap : Nat) (w : World) (hbl : BlA w a n cap o.bl) (hn : n ≤ 100) :
    Calls Try.prog 33 #[.agg (optCells o a n cap)] w fun e w' => e = .returned (.int .i64 (bare o)) ∧ Below w.heap.size w w' := by
  have hlen := hbl.len
  have HL := Lib.hid hlen
  clear hlen hbl
  unfold optCells
  go_enter Try.func33, Try.ntmps33
  go_wp2
  all_goals
    go_ret
    exact ⟨ret_i (by have := HL.out; unfold bare; simp_all; try (split <;> omega)), (Below.refl _ _).alloc (Nat.le_refl _) _⟩

set_option maxHeartbeats 1600000 in
theorem rsize_any (o : Opt) (a : Option Addr) (n cap : Nat) (w : World) (hbl : BlA w a n cap o.bl) :
    Calls Try.prog 28 #[.agg (optCells o a n cap)] w fun e w' => e = .returned (.int .i64 (sizeG o)) ∧ Below w.heap.size w w' := by
  have hlen := hbl.len
  have hle := hbl.le
  have hmost := hbl.most
  unfold maxLen at hmost
  have hbl1 := hbl.later ((Below.refl _ _).alloc (Nat.le_refl _) (.cells (optCells o a n cap) 40))
  have hb1 : Below w.heap.size w (w.alloc (.cells (optCells o a n cap) 40)) := (Below.refl _ _).alloc (Nat.le_refl _) _
  have hW := rbare_any o a n cap (w.alloc (.cells (optCells o a n cap) 40)) hbl1
  unfold optCells at hW hbl1 hb1 ⊢
  by_cases hn : 4 < n
  · have e : Hid (sizeG o = 0) := Lib.hid (by unfold sizeG; rw [if_pos (by omega)])
    have HL := Lib.hid hlen
    clear hlen hW hbl1
    go_enter Try.func28, Try.ntmps28
    go_wp2
    go_ret
    exact ⟨ret_i e.out.symm, (Below.refl _ _).alloc (Nat.le_refl _) _⟩
  · have e : Hid (sizeG o = size4 o) := Lib.hid (by unfold sizeG; rw [if_neg (by omega)])
    have hbr := bare_le o (by omega)
    have hs4 : size4 o = bare o + padN (bare o) := rfl
    have HS := Lib.hid hs4
    have HL := Lib.hid hlen
    have hW' := hW (by omega)
    clear hlen hW hbl1 hs4
    go_enter Try.func28, Try.ntmps28
    go_wp2_with fail
    refine hW'.mono ?_
    rintro e2 w2 ⟨rfl, hb2⟩
    go_wp2_with fail
    generalize bare o = b at *
    go_loop [3] (fun v => ∃ k : Nat, v = .int .i64 (k : Int) ∧ b ≤ k ∧ k ≤ b + padN b) (fun v => b + padN b - (intOf v).toNat)
    case atStart => exact ⟨b, rfl, Nat.le_refl _, by omega⟩
    case round =>
      obtain ⟨k, rfl, h1, h2⟩ := hrel
      unfold padN at h2
      by_cases hm : k % 4 = 0
      · have hm' : (((k : Int) % 4) != 0) = false := by simp; omega
        go_wp2
        go_ret
        refine ⟨ret_i ?_, hb1.trans (hb2.mono (by simp))⟩
        rw [e.out, HS.out]
        unfold padN
        omega
      · have hm' : (((k : Int) % 4) != 0) = true := by simp; omega
        go_wp2
        go_round
        case rel => exact ⟨k + 1, by go_num, by omega, by unfold padN; omega⟩
        case measure => simp [intOf]; unfold padN; omega

def SizePost (o : Opt) (w : World) (e : Ending) (w' : World) : Prop := e = .returned (.int .i64 (sizeG o)) ∧ Below w.heap.size w w'
set_option maxHeartbeats 3200000 in
theorem rchk_any (o : Opt) (a : Option Addr) (n cap : Nat) (w : World) (hbl : BlA w a n cap o.bl) :
    Calls Try.prog 26 #[.agg (optCells o a n cap)] w fun e w' => e = .returned (.int .i64 (chk o)) ∧ Below w.heap.size w w' := by
  have hlen := hbl.len
  have hle := hbl.le
  have hmost := hbl.most
  unfold maxLen at hmost
  have HL := Lib.hid hlen
  have hbl1 := hbl.later ((Below.refl _ _).alloc (Nat.le_refl _) (.cells (optCells o a n cap) 40))
  have hb1 : Below w.heap.size w (w.alloc (.cells (optCells o a n cap) 40)) := (Below.refl _ _).alloc (Nat.le_refl _) _
  have hW : ∀ (m v e s : Int) (h t : Bool), m = o.mss → v = o.val → e = o.ecr → s = o.scale → h = o.hs → t = o.ts →
      Calls Try.prog 28 #[.agg #[.int .i64 m, .bool o.permit, .bool t, .int .u32 v, .int .u32 e, .bool h, .int .i64 s, .slice a n cap]] (w.alloc (.cells #[.int .i64 m, .bool o.permit, .bool t, .int .u32 v, .int .u32 e, .bool h, .int .i64 s, .slice a n cap] 40)) (SizePost o w) := by
    intro m v e s h t e1 e2 e3 e4 e5 e6
    subst e1 e2 e3 e4 e5 e6
    exact (rsize_any o a n cap (w.alloc (.cells (optCells o a n cap) 40)) hbl1).mono fun e W' ⟨h1, h2⟩ => ⟨h1, hb1.trans (h2.mono (by simp))⟩
  have HSZ : Hid (¬ 4 < o.bl.length → sizeG o = size4 o) := Lib.hid (fun h => by unfold sizeG; rw [if_neg h])
  unfold optCells at hb1 ⊢
  clear hlen hbl hbl1
  go_enter Try.func26, Try.ntmps26
  go_wp2_with fail
  any_goals (with_reducible refine (hW _ _ _ _ _ _ (by first | rfl | (symm; assumption)) (by first | rfl | (symm; assumption)) (by first | rfl | (symm; assumption)) (by first | rfl | (symm; assumption)) (by first | rfl | (symm; assumption) | simp_all) (by first | rfl | (symm; assumption) | simp_all)).mono ?_)
  all_goals try (rintro e2 w2 ⟨rfl, hb2⟩)
  all_goals (try go_wp2_with fail)
  all_goals clear hW
  all_goals go_ret
  all_goals
    refine ⟨ret_i ?_, ?_⟩
    · have hL := HL.out
      have hS := HSZ.out
      clear HL HSZ
      unfold chk
      (repeat' split) <;> first | rfl | omega | (simp_all; done) | (simp_all; omega)
    · first | exact hb2 | exact (Below.refl _ _).alloc (Nat.le_refl _) _
end Go.Proofs.Ytdpambnoaagmjaa.op
