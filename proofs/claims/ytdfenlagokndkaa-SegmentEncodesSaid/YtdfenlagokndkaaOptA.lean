/-
  The reference's Same on options.
-/
import Derived.Test.YtdfenlagokndkaaOptW
import Derived.WalkSpells
import Derived.Laws.StructEq
namespace Go.Proofs.Ytdfenlagokndkaa.op
open Go.RowKit aid mem oc
set_option linter.unusedVariables false

/-- the same in all fields -/
def sameB (o q : Opt) : Bool := o.bl == q.bl && (o.mss == q.mss && o.permit == q.permit && o.ts == q.ts && o.val == q.val && o.ecr == q.ecr && o.hs == q.hs && o.scale == q.scale)
theorem sameB_self (o : Opt) : sameB o o = true := by simp [sameB]

theorem eq_bl (a b c d : Int) (w : World) : (Op.equalIn 10000 99 (.agg #[.int .u32 a, .int .u32 b]) (.agg #[.int .u32 c, .int .u32 d])).run Try.prog w = .ok (a == c && b == d) w := by
  have u3 := Try.underlying22
  have a3 := Try.isAgg22
  have z3 := Try.sizeOf22
  have hS : Try.prog.underlying 99 = some (.struct (Try.prog.fieldsOf 99)) := by kernel_rfl
  rw [show (10000 : Nat) = 9999 + 1 from rfl, run_equalIn_agg w 9999 99 _ _ hS (by kernel_rfl)]
  simp only [Program.fieldsOf, Try.underlying99]
  go_simp
  by_cases h1 : a = c <;> by_cases h2 : b = d <;> simp [h1, h2]
theorem eq_guard : Try.prog.eqGuardType Try.prog.depth 99 = false := by kernel_rfl

/-- as it was, but for draws and new memory -/
def SamePost (b : Bool) (w : World) (e : Ending) (w' : World) : Prop := e = .returned (.bool b) ∧ Below w.heap.size w w'

set_option maxRecDepth 100000 in
set_option maxHeartbeats 3200000 in
theorem rsame_any (o q : Opt) (a b : Option Addr) (n m c d : Nat) (w : World) (ho : BlA w a n c o.bl) (hq : BlA w b m d q.bl) :
    Calls Try.prog 64 #[.agg (optCells o a n c), .agg (optCells q b m d)] w (SamePost (sameB o q) w) := by
  have hlo := ho.len
  have hlq := hq.len
  have hmo := ho.most
  have hmq := hq.most
  have hleo := ho.le
  have hleq := hq.le
  unfold maxLen at hmo hmq
  have hb1 : Below w.heap.size w (w.alloc (.cells (optCells o a n c) 25)) := (Below.refl _ _).alloc (Nat.le_refl _) _
  have hb2 : Below w.heap.size w ((w.alloc (.cells (optCells o a n c) 25)).alloc (.cells (optCells q b m d) 25)) := hb1.alloc hb1.size _
  have hO := (opt_new w o a n c 25).keep ((Kept.refl [] _).alloc (.cells (optCells q b m d) 25)) (by simp)
  have hQ := opt_new (w.alloc (.cells (optCells o a n c) 25)) q b m d 25
  have ho2 := (ho.later hb1).later ((Below.refl _ _).alloc (Nat.le_refl _) (.cells (optCells q b m d) 25))
  have hq2 := (hq.later hb1).later ((Below.refl _ _).alloc (Nat.le_refl _) (.cells (optCells q b m d) 25))
  have HLO := Lib.hid hlo
  have HLQ := Lib.hid hlq
  clear hlo hlq hb1
  unfold optCells at hb2 hO hQ ho2 hq2 ⊢
  by_cases hnm : n = m
  · subst hnm
    go_enter Try.func64, Try.ntmps64
    go_wp2_with fail
    obtain ⟨W, hW⟩ : ∃ W, (w.alloc (.cells #[.int .i64 o.mss, .bool o.permit, .bool o.ts, .int .u32 o.val, .int .u32 o.ecr, .bool o.hs, .int .i64 o.scale, .slice a n c] 25)).alloc (.cells #[.int .i64 q.mss, .bool q.permit, .bool q.ts, .int .u32 q.val, .int .u32 q.ecr, .bool q.hs, .int .i64 q.scale, .slice b n d] 25) = W := ⟨_, rfl⟩
    rw [hW] at hb2 hO hQ ho2 hq2 ⊢
    clear hW ho hq
    obtain ⟨B2, hB2⟩ : ∃ B2, w.heap.size + 1 = B2 := ⟨_, rfl⟩
    rw [World.size_alloc, hB2] at hQ
    rw [hB2]
    clear hB2
    obtain ⟨c0, c1, c2, c3, c4, c5, c6, c7⟩ := hO
    obtain ⟨d0, d1, d2, d3, d4, d5, d6, d7⟩ := hQ
    by_cases hn : n = 0
    · subst hn
      have HBL : Hid (o.bl = q.bl) := Lib.hid (by rw [List.eq_nil_of_length_eq_zero HLO.out, List.eq_nil_of_length_eq_zero HLQ.out])
      go_loop [5] (fun i => i = .int .i64 0) (fun _ => 0)
      case atStart => rfl
      case round =>
        obtain rfl := hrel
        go_wp2
        all_goals go_ret
        all_goals
          refine ⟨ret_b ?_, hb2⟩
          have hh := HBL.out
          clear HBL HLO HLQ c0 c1 c2 c3 c4 c5 c6 c7 d0 d1 d2 d3 d4 d5 d6 d7
          unfold sameB
          simp_all
    · obtain ⟨b1, o1, rfl, hc1⟩ := ho2.cells (by omega)
      obtain ⟨b2, o2, rfl, hc2⟩ := hq2.cells (by omega)
      have H1 := Lib.hid hc1
      have H2 := Lib.hid hc2
      clear hc1 hc2
      go_loopw [5] (fun i wr => ∃ k nq : Nat, k ≤ n ∧ i = .int .i64 k ∧ wr = W.drewN nq ∧ Hid (∀ j, j < k → o.bl.getD j (0, 0) = q.bl.getD j (0, 0))) (fun i _ => n - (intOf i).toNat)
      case atStart => exact ⟨0, 0, Nat.zero_le _, rfl, rfl, Lib.hid (fun j hj => by omega)⟩
      case round =>
        obtain ⟨k, nq, hk, rfl, rfl, HJ⟩ := hrel
        have hk0 : (0 : Int) ≤ (k : Int) := by omega
        by_cases hlt : k < n
        · obtain ⟨g1, g2⟩ := H1.out k hlt
          obtain ⟨g3, g4⟩ := H2.out k hlt
          have hk1 : (k : Int) < (n : Int) := by omega
          obtain ⟨x, hx⟩ : ∃ x, o.bl.getD k (0, 0) = x := ⟨_, rfl⟩
          obtain ⟨y, hy⟩ : ∃ y, q.bl.getD k (0, 0) = y := ⟨_, rfl⟩
          have HX := Lib.hid hx
          have HY := Lib.hid hy
          rw [hx] at g1 g2
          rw [hy] at g3 g4
          clear hx hy
          obtain ⟨x1, x2⟩ := x
          obtain ⟨y1, y2⟩ := y
          have eqb := eq_bl x1 x2 y1 y2
          have eqg := eq_guard
          by_cases h1 : x1 = y1
          · have t1 : (x1 == y1) = true := by simpa using h1
            by_cases h2 : x2 = y2
            · have t2 : (x2 == y2) = true := by simpa using h2
              have HJ2 : Hid (∀ j, j < k + 1 → o.bl.getD j (0, 0) = q.bl.getD j (0, 0)) := Lib.hid (fun j hj => by
                by_cases hjk : j < k
                · exact HJ.out j hjk
                · rw [show j = k by omega, HX.out, HY.out, h1, h2])
              clear h1 h2
              go_wp2_with fail
              go_quiet (fail)
              clear eqb eqg
              go_wp2
              go_roundw
              case rel => exact ⟨k + 1, _, by omega, by go_num, rfl, HJ2⟩
              case measure => simp [intOf]; omega
            · have t2 : (x2 == y2) = false := by simpa using h2
              have e : Hid (sameB o q = false) := Lib.hid (by
                have hne : o.bl ≠ q.bl := fun e => by
                  have e1 := HX.out
                  rw [e, HY.out] at e1
                  injection e1 with e1 e2
                  first | exact h1 e1.symm | exact h2 e2.symm
                simp [sameB, hne])
              clear h1 h2
              go_wp2_with fail
              go_quiet (fail)
              clear eqb eqg
              go_wp2
              go_ret
              exact ⟨ret_b e.out.symm, below_drewN (below_drewN hb2 _) _⟩
          · have t1 : (x1 == y1) = false := by simpa using h1
            have e : Hid (sameB o q = false) := Lib.hid (by
              have hne : o.bl ≠ q.bl := fun e => by
                have e1 := HX.out
                rw [e, HY.out] at e1
                injection e1 with e1 e2
                exact h1 e1.symm
              simp [sameB, hne])
            clear h1
            go_wp2_with fail
            go_quiet (fail)
            clear eqb eqg
            go_wp2
            go_ret
            exact ⟨ret_b e.out.symm, below_drewN (below_drewN hb2 _) _⟩
        · have HBL : Hid (o.bl = q.bl) := Lib.hid (by
            apply List.ext_getElem (by rw [HLO.out, HLQ.out])
            intro j h1 h2
            have := HJ.out j (by rw [HLO.out] at h1; omega)
            simpa [List.getD, h1, h2] using this)
          go_wp2
          all_goals go_ret
          all_goals
            refine ⟨ret_b ?_, below_drewN hb2 _⟩
            have hh := HBL.out
            clear HBL HLO HLQ H1 H2 HJ c0 c1 c2 c3 c4 c5 c6 c7 d0 d1 d2 d3 d4 d5 d6 d7
            unfold sameB
            simp_all
  · have hnb : ((n : Int) != (m : Int)) = true := by simp; omega
    have e : Hid (sameB o q = false) := Lib.hid (by
      have : o.bl ≠ q.bl := fun e => hnm (by rw [← HLO.out, ← HLQ.out, e])
      simp [sameB, this])
    have hnm' := Lib.hid hnm
    clear hnm
    go_enter Try.func64, Try.ntmps64
    go_wp2
    go_ret
    exact ⟨ret_b e.out.symm, hb2⟩
end Go.Proofs.Ytdfenlagokndkaa.op
