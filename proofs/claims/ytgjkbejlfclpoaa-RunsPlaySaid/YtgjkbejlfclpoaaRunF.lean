/-
  slices.IndexFunc, slices.DeleteFunc over one or two spans: those that are empty go.
-/
import Derived.Test.YtgjkbejlfclpoaaRunD
namespace Go.Proofs.Ytgjkbejlfclpoaa.rn
open Go.RowKit Go.Shelf aid mem rng sp
attribute [local go_sem ↓] Go.wp_at_zero Go.wp_at_succ
set_option linter.unusedVariables false
set_option linter.unusedSimpArgs false

theorem rep1_any (x : Sp) (w : World) : Calls Try.prog 67 #[spV x] w (RetB (decide (lenI x = 0)) w) := by
  have b1 := bal (w := w) (.cells #[.int .i64 x.1, .int .i64 x.2] 24)
  have s0 := sp_new w x
  have c0 := s0.c0; have c1 := s0.c1
  have HM := Lib.hid (len_any x (w.alloc (.cells #[.int .i64 x.1, .int .i64 x.2] 24)))
  have HB := Lib.hid b1
  clear b1 s0
  go_enter Try.func67, Try.ntmps67
  go_wp2_with (go_at_call 43; go_must (with_reducible refine HM.out.mono ?_); rintro e w3 ⟨rfl, hb3⟩)
  go_ret
  exact ⟨rfl, HB.out.trans (hb3.mono HB.out.size)⟩
theorem eg_rep1 : ∀ args w, (callFunc 67 args).run Try.prog w = .ok (.enter 67 args) w := enters_of Try.func67 (by kernel_rfl) rfl
/-- where the first empty one stands -/
def idxE (l : List Sp) : Nat := plc (fun x => decide (lenI x = 0)) l
def RetX (l : List Sp) (w : World) (e : Ending) (w' : World) : Prop := e = .returned (.int .i64 (if idxE l < l.length then (idxE l : Int) else -1)) ∧ Below w.heap.size w w'
set_option maxHeartbeats 1000000 in
theorem index_any {w : World} {a : Option Addr} {n cap : Nat} {l : List Sp} (h : SlR w 24 2 a n cap (spCells l)) (hn : n ≤ 100000) :
    Calls Try.prog 69 #[.slice a n cap, .func (.func 67) #[] #[]] w (RetX l w) := by
  have hle := h.le
  have hmost := h.most
  have hlen := row_len h
  unfold maxLen at hmost
  obtain ⟨p1, p2, p3⟩ := plc_parts (fun x => decide (lenI x = 0)) l
  have HP1 := Lib.hid (fun (k : Nat) (hk : k < n) (h : ∀ t, t < k → decide (lenI (l.getD t (0, 0)) = 0) = false) (h2 : lenI (l.getD k (0, 0)) = 0) => show (if idxE l < l.length then (idxE l : Int) else -1) = (k : Int) from by
    have e : idxE l = k := by
      unfold idxE
      rcases Nat.lt_trichotomy (plc (fun x => decide (lenI x = 0)) l) k with c | c | c
      · have a := p2 (by omega)
        have b := h _ c
        rw [b] at a; cases a
      · exact c
      · have hm : l.getD k (0, 0) ∈ l.take (plc (fun x => decide (lenI x = 0)) l) := by
          have : k < (l.take (plc (fun x => decide (lenI x = 0)) l)).length := by rw [List.length_take]; omega
          have e : (l.take (plc (fun x => decide (lenI x = 0)) l))[k] = l.getD k (0, 0) := by simp [List.getD, show k < l.length by omega]
          rw [← e]; exact List.getElem_mem _
        have := p1 _ hm
        rw [decide_eq_true h2] at this; cases this
    rw [e, if_pos (by omega)])
  have HP2 := Lib.hid (fun (h : ∀ t, t < n → decide (lenI (l.getD t (0, 0)) = 0) = false) => show (if idxE l < l.length then (idxE l : Int) else -1) = -1 from by
    rw [if_neg]
    intro c
    have a := p2 c
    have b := h (plc (fun x => decide (lenI x = 0)) l) (by unfold idxE at c; omega)
    rw [b] at a; cases a)
  have HC := Lib.hid (fun (h0 : 0 < n) => row_cells h h0)
  clear h p1 p2 p3 hlen
  go_enter Try.func69, Try.ntmps69
  go_wp2_with fail
  go_loopw [8] (fun i wr => ∃ k : Nat, k ≤ n ∧ i = .int .i64 k ∧ Below w.heap.size w wr ∧ Hid (∀ t, t < k → decide (lenI (l.getD t (0, 0)) = 0) = false)) (fun i _ => n - (intOf i).toNat)
  case atStart => exact ⟨0, Nat.zero_le _, rfl, Below.refl _ _, Lib.hid (fun t ht => by omega)⟩
  case round =>
    obtain ⟨k, hk, rfl, hb, HI⟩ := hrel
    by_cases hlt : k < n
    · obtain ⟨g, off, rfl, hc⟩ := HC.out (by omega)
      obtain ⟨m0, m1⟩ := hc k hlt
      replace m0 := kcell hb m0
      replace m1 := kcell hb m1
      have HN := Lib.hid (fun (h2 : decide (lenI (l.getD k (0, 0)) = 0) = false) => show ∀ t, t < k + 1 → decide (lenI (l.getD t (0, 0)) = 0) = false from fun t ht => by
        by_cases c : t = k
        · subst c; exact h2
        · exact HI.out t (by omega))
      have HY := Lib.hid (fun (h2 : lenI (l.getD k (0, 0)) = 0) => HP1.out k hlt HI.out h2)
      have HR := Lib.hid (rep1_any (l.getD k (0, 0)) wr)
      clear hc
      generalize l.getD k (0, 0) = m at *
      by_cases hz : lenI m = 0
      · have HE := Lib.hid (HY.out hz)
        rw [decide_eq_true hz] at HR
        clear HN HY hz
        go_wp2_with (go_at_call 67; go_must (refine HR.out.mono ?_); rintro e w' ⟨rfl, hb3⟩)
        go_ret
        exact ⟨by rw [HE.out]; rfl, hb.trans (hb3.mono hb.size)⟩
      · have HE := Lib.hid (HN.out (decide_eq_false hz))
        rw [decide_eq_false hz] at HR
        clear HN HY hz
        go_wp2_with (go_at_call 67; go_must (refine HR.out.mono ?_); rintro e w' ⟨rfl, hb3⟩)
        go_roundw
        case rel => exact ⟨k + 1, by omega, by go_num, hb.trans (hb3.mono hb.size), HE⟩
        case measure => simp [intOf]; omega
    · obtain rfl : k = n := by omega
      have HE := Lib.hid (HP2.out HI.out)
      go_wp2
      go_ret
      exact ⟨by rw [HE.out]; rfl, hb⟩

/-- what is left in the row behind a deletion -/
def DelPost (sg : Nat) (ys : List Sp) (k : Nat) (w : World) (e : Ending) (w' : World) : Prop :=
  e = .returned (.slice (some ⟨sg, 0, none⟩) ys.length k) ∧ SlR w' 24 2 (some ⟨sg, 0, none⟩) ys.length k (spCells ys) ∧ Kept [sg] w w'
theorem del_keep {w : World} {sg k : Nat} {xs : List Sp} (h : SlR w 24 2 (some ⟨sg, 0, none⟩) k k (spCells xs)) (hk : k ≤ 100000) (hx : ∀ x ∈ xs, lenI x ≠ 0) :
    Calls Try.prog 66 #[.slice (some ⟨sg, 0, none⟩) k k, .func (.func 67) #[] #[]] w (DelPost sg xs k w) := by
  have hlen := row_len h
  have HI := index_any h hk
  have e : (if idxE xs < xs.length then (idxE xs : Int) else -1) = -1 := by
    rw [if_neg]
    intro c
    obtain ⟨_, p2, _⟩ := plc_parts (fun x => decide (lenI x = 0)) xs
    have := p2 c
    exact hx _ (getD_mem c) (of_decide_eq_true this)
  have HI2 := Lib.hid (HI.mono (fun e' w' (h : RetX xs w e' w') => show e' = .returned (.int .i64 (-1)) ∧ Below w.heap.size w w' from ⟨by rw [h.1, e], h.2⟩))
  have HF := Lib.hid (fun (W : World) (hb : Below w.heap.size w W) => show DelPost sg xs k w (.returned (.slice (some ⟨sg, 0, none⟩) k k)) W from ⟨by rw [hlen], by rw [hlen]; exact h.later hb, Kept.of_below hb (Nat.le_refl _) _⟩)
  clear h HI e hx hlen
  go_enter Try.func66, Try.ntmps66
  go_wp2_with (go_at_call 69; go_must (refine HI2.out.mono ?_); rintro e w' ⟨rfl, hb3⟩)
  go_ret
  exact HF.out _ hb3
end Go.Proofs.Ytgjkbejlfclpoaa.rn
