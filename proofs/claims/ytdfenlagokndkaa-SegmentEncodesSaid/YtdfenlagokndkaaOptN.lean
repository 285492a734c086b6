/-
  The reference's Encode of options that may not be; the package's Same.
-/
import Derived.Test.YtdfenlagokndkaaOptC
import Derived.Test.YtdfenlagokndkaaOptA
import Derived.IntWalk
namespace Go.Proofs.Ytdfenlagokndkaa.op
open Go.RowKit aid mem oc
set_option linter.unusedVariables false

set_option maxHeartbeats 800000 in
theorem rencode_no (o : Opt) (a : Option Addr) (n cap : Nat) (w : World) (hbl : BlA w a n cap o.bl) (hc : chk o ≠ 0) :
    Calls Try.prog 47 #[.agg (optCells o a n cap)] w fun e w' => e = .returned (.tuple #[.slice none 0 0, .int .i64 (chk o)]) ∧ Below w.heap.size w w' := by
  have hbl1 := hbl.later ((Below.refl _ _).alloc (Nat.le_refl _) (.cells (optCells o a n cap) 25))
  have hb1 : Below w.heap.size w (w.alloc (.cells (optCells o a n cap) 25)) := (Below.refl _ _).alloc (Nat.le_refl _) _
  have hC := rchk_any o a n cap (w.alloc (.cells (optCells o a n cap) 25)) hbl1
  have hne : (chk o != 0) = true := by simpa using hc
  clear hc
  unfold optCells at hC hbl1 hb1 ⊢
  go_enter Try.func47, Try.ntmps47
  go_wp2_with fail
  refine hC.mono ?_
  rintro e w2 ⟨rfl, h2⟩
  have hb2 := hb1.trans (h2.mono hb1.size)
  clear h2 hb1 hC hbl1
  go_wp2_with fail
  go_ret2
  exact ⟨rfl, hb2⟩

set_option maxRecDepth 100000 in
set_option maxHeartbeats 1600000 in
theorem equal_any (l r : List (Int × Int)) (a b : Option Addr) (n m c d : Nat) (w : World) (ho : BlA w a n c l) (hq : BlA w b m d r) :
    Calls Try.prog 83 #[.slice a n c, .slice b m d] w (SamePost (l == r) w) := by
  have hmo := ho.most
  have hmq := hq.most
  have hleo := ho.le
  have hleq := hq.le
  unfold maxLen at hmo hmq
  have HLO := Lib.hid ho.len
  have HLQ := Lib.hid hq.len
  by_cases hnm : n = m
  · subst hnm
    go_enter Try.func83, Try.ntmps83
    go_wp2_with fail
    go_loopw [5, 13] (fun _ h wr => ∃ k nq : Nat, k ≤ n ∧ h = .int .i64 k ∧ wr = w.drewN nq ∧ Hid (∀ j, j < k → l.getD j (0, 0) = r.getD j (0, 0))) (fun _ h _ => n - (intOf h).toNat)
    case atStart => exact ⟨0, 0, Nat.zero_le _, rfl, rfl, Lib.hid (fun j hj => by omega)⟩
    case round =>
      obtain ⟨k, nq, hk, rfl, rfl, HJ⟩ := hrel
      have hk0 : (0 : Int) ≤ (k : Int) := by omega
      by_cases hlt : k < n
      · obtain ⟨b1, o1, rfl, hc1⟩ := ho.cells (by omega)
        obtain ⟨b2, o2, rfl, hc2⟩ := hq.cells (by omega)
        obtain ⟨g1, g2⟩ := hc1 k hlt
        obtain ⟨g3, g4⟩ := hc2 k hlt
        have hk1 : (k : Int) < (n : Int) := by omega
        obtain ⟨x, hx⟩ : ∃ x, l.getD k (0, 0) = x := ⟨_, rfl⟩
        obtain ⟨y, hy⟩ : ∃ y, r.getD k (0, 0) = y := ⟨_, rfl⟩
        have HX := Lib.hid hx
        have HY := Lib.hid hy
        rw [hx] at g1 g2
        rw [hy] at g3 g4
        clear hx hy hc1 hc2 ho hq
        obtain ⟨x1, x2⟩ := x
        obtain ⟨y1, y2⟩ := y
        have eqb := eq_bl x1 x2 y1 y2
        have eqg := eq_guard
        by_cases h1 : (x1 == y1 && x2 == y2) = true
        · have HJ2 : Hid (∀ j, j < k + 1 → l.getD j (0, 0) = r.getD j (0, 0)) := Lib.hid (fun j hj => by
            by_cases hjk : j < k
            · exact HJ.out j hjk
            · rw [show j = k by omega, HX.out, HY.out]
              simp at h1
              rw [h1.1, h1.2])
          rw [h1] at eqb
          clear h1
          go_wp2_with fail
          go_quiet (fail)
          clear eqb eqg
          go_wp2
          go_roundw
          case rel => exact ⟨k + 1, _, by omega, by go_num, rfl, HJ2⟩
          case measure => simp [intOf]; omega
        · have h2 : (x1 == y1 && x2 == y2) = false := by simpa using h1
          have e : Hid ((l == r) = false) := Lib.hid (by
            rw [beq_eq_false_iff_ne]
            intro e
            have e1 := HX.out
            rw [e, HY.out] at e1
            injection e1 with e1 e2
            rw [e1, e2] at h1
            simp at h1)
          rw [h2] at eqb
          clear h1 h2
          go_wp2_with fail
          go_quiet (fail)
          clear eqb eqg
          go_wp2
          go_ret
          exact ⟨ret_b e.out.symm, below_drewN (below_drewN (Below.refl _ _) _) _⟩
      · obtain rfl : k = n := by omega
        have e : Hid ((l == r) = true) := Lib.hid (by
          rw [beq_iff_eq]
          apply List.ext_getElem (by rw [HLO.out, HLQ.out])
          intro j h1 h2
          have := HJ.out j (by rw [HLO.out] at h1; exact h1)
          simpa [List.getD, h1, h2] using this)
        clear ho hq
        go_wp2_with fail
        go_ret
        exact ⟨ret_b e.out.symm, below_drewN (Below.refl _ _) _⟩
  · have hne : ((n : Int) != (m : Int)) = true := by simp; omega
    have e : Hid ((l == r) = false) := Lib.hid (by
      rw [beq_eq_false_iff_ne]
      intro e
      have h1 := HLO.out
      rw [e, HLQ.out] at h1
      omega)
    clear hnm
    go_enter Try.func83, Try.ntmps83
    go_wp2_with fail
    go_ret
    exact ⟨ret_b e.out.symm, Below.refl _ _⟩

set_option maxRecDepth 100000 in
set_option maxHeartbeats 3200000 in
theorem same_any (o q : Opt) (a b : Option Addr) (n m c d : Nat) (w : World) (ho : BlA w a n c o.bl) (hq : BlA w b m d q.bl) :
    Calls Try.prog 62 #[.agg (optCells o a n c), .agg (optCells q b m d)] w (SamePost (sameB o q) w) := by
  have hb1 : Below w.heap.size w (w.alloc (.cells (optCells o a n c) 25)) := (Below.refl _ _).alloc (Nat.le_refl _) _
  have hb2 : Below w.heap.size w ((w.alloc (.cells (optCells o a n c) 25)).alloc (.cells (optCells q b m d) 25)) := hb1.alloc hb1.size _
  have hO := (opt_new w o a n c 25).keep ((Kept.refl [] _).alloc (.cells (optCells q b m d) 25)) (by simp)
  have hQ := opt_new (w.alloc (.cells (optCells o a n c) 25)) q b m d 25
  have ho2 := (ho.later hb1).later ((Below.refl _ _).alloc (Nat.le_refl _) (.cells (optCells q b m d) 25))
  have hq2 := (hq.later hb1).later ((Below.refl _ _).alloc (Nat.le_refl _) (.cells (optCells q b m d) 25))
  have hE : ∀ (m' : Int) (p' t' : Bool) (v' e' : Int) (h' : Bool) (s' : Int), m' = o.mss → p' = o.permit → t' = o.ts → v' = o.val → e' = o.ecr → h' = o.hs → s' = o.scale →
      Calls Try.prog 83 #[.slice a n c, .slice b m d] ((w.alloc (.cells #[.int .i64 m', .bool p', .bool t', .int .u32 v', .int .u32 e', .bool h', .int .i64 s', .slice a n c] 25)).alloc (.cells (optCells q b m d) 25)) (SamePost (o.bl == q.bl) w) := by
    intro m' p' t' v' e' h' s' e0 e1 e2 e3 e4 e5 e6
    subst e0 e1 e2 e3 e4 e5 e6
    exact (equal_any o.bl q.bl a b n m c d _ ho2 hq2).mono fun e W' ⟨h1, h2⟩ => ⟨h1, hb2.trans (h2.mono hb2.size)⟩
  obtain ⟨bb, hbb⟩ : ∃ x, (o.bl == q.bl) = x := ⟨_, rfl⟩
  have HBB := Lib.hid hbb
  rw [hbb] at hE
  clear hb1 ho2 hq2 ho hq hbb
  unfold optCells at hb2 hO hQ hE ⊢
  go_enter Try.func62, Try.ntmps62
  go_wp2_with fail
  any_goals (with_reducible refine (hE _ _ _ _ _ _ _ (by first | rfl | assumption | (symm; assumption) | simp_all) (by first | rfl | assumption | (symm; assumption) | simp_all) (by first | rfl | assumption | (symm; assumption) | simp_all) (by first | rfl | assumption | (symm; assumption) | simp_all) (by first | rfl | assumption | (symm; assumption) | simp_all) (by first | rfl | assumption | (symm; assumption) | simp_all) (by first | rfl | assumption | (symm; assumption) | simp_all)).mono ?_)
  any_goals (rintro e w' ⟨rfl, hb3⟩)
  all_goals (try go_wp2_with fail)
  all_goals clear hE
  all_goals go_ret
  all_goals
    refine ⟨ret_b ?_, ?_⟩
    · have h := HBB.out
      clear HBB hO hQ
      unfold sameB
      rw [h]
      first | (simp_all; done) | (cases bb <;> simp_all)
    · first | exact hb3 | exact (Below.refl _ _).alloc (Nat.le_refl _) _ |>.alloc (by simp) _
end Go.Proofs.Ytdfenlagokndkaa.op
