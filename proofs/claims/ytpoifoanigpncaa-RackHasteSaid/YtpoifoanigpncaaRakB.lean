/-
  Package rack: reach, Dup, Calm, Window, what is asked, Clone.
-/
import Derived.Test.YtpoifoanigpncaaRakA
import Derived.StillTailTactics
namespace Go.Proofs.Ytpoifoanigpncaa.rk
open Go.RowKit aid mem bk
attribute [local go_sem ↓] Go.wp_at_zero Go.wp_at_succ
set_option linter.unusedVariables false
set_option linter.unusedSimpArgs false

abbrev boxR (r : Rc) : Obj := .cells #[.int .i64 r.f, .int .i64 r.t, .int .i64 r.sent, .int .i64 r.order, .int .i64 r.times, .int .i64 r.out, .bool r.lost] 26
theorem box_cs {w : World} {b : Nat} {r : Rc} (h : w.heap[b]? = some (boxR r)) : w.cell? ⟨b, 0, none⟩ = some (.int .i64 r.f) ∧ w.cell? ⟨b, 1, none⟩ = some (.int .i64 r.t) ∧ w.cell? ⟨b, 2, none⟩ = some (.int .i64 r.sent) ∧ w.cell? ⟨b, 3, none⟩ = some (.int .i64 r.order) ∧ w.cell? ⟨b, 4, none⟩ = some (.int .i64 r.times) ∧ w.cell? ⟨b, 5, none⟩ = some (.int .i64 r.out) ∧ w.cell? ⟨b, 6, none⟩ = some (.bool r.lost) :=
  ⟨cofr h 0 _ rfl, cofr h 1 _ rfl, cofr h 2 _ rfl, cofr h 3 _ rfl, cofr h 4 _ rfl, cofr h 5 _ rfl, cofr h 6 _ rfl⟩
theorem RkAt.put (i : Nat) (u : Value) {w : World} {X : Nat} {x x' : Rk} (h : RkAt w X x) (hx : (rkC x).setIfInBounds i u = rkC x') : RkAt (w.setCell ⟨X, i, none⟩ u) X x' := by
  unfold RkAt
  rw [← hx]
  exact setp h u
def RetK (X : Nat) (x' : Rk) (w : World) (e : Ending) (w' : World) : Prop := (∃ v, e = .returned v) ∧ RkAt w' X x' ∧ Kept [X] w w'
set_option maxRecDepth 100000 in
set_option maxHeartbeats 2000000 in
theorem reach_any {w : World} {X : Nat} {x : Rk} (h : RkAt w X x) (r : Rc) : Calls Try.prog 43 #[.pointer (some ⟨X, 0, none⟩), rcV r] w (RetK X (rch x r) w) := by
  have b0 := al w (boxR r)
  have y0 := heap_alloc_new w (boxR r)
  have h1 := h.later b0
  have hX := h.lt
  have HE := Lib.hid (show rch x r = ⟨x.floor, x.rtt, x.order, max x.fin r.t, x.mixed || (decide (r.times = 1) && decide (r.t < x.fin)), x.mult, x.round, x.rest⟩ from rfl)
  rw [HE.out]
  clear HE h
  have HK := Lib.hid (Kept.of_below b0 (Nat.le_refl _) [X])
  obtain ⟨c0, c1, c2, c3, c4, c5, c6, c7⟩ := h1.cs
  obtain ⟨d0, d1, d2, d3, d4, d5, d6⟩ := box_cs y0
  have f3 := h1.f 3; have f4 := h1.f 4
  have HH := Lib.hid h1
  have hXn : X ≠ w.heap.size := by omega
  clear y0 h1 b0
  by_cases h2 : r.times = 1
  · have h2b : (r.times == 1) = true := by simpa using h2
    by_cases h3 : r.t < x.fin
    · have h3b := decide_eq_true h3
      have hmx : max x.fin r.t = x.fin := by omega
      have HM := Lib.hid (And.intro (show (x.mixed || (decide (r.times = 1) && decide (r.t < x.fin))) = true from by simp [h2, h3]) hmx)
      rw [HM.out.1, HM.out.2]
      clear h2 hmx
      go_enter Try.func43, Try.ntmps43
      go_wp2_with fail
      go_quiet (fail)
      go_wp2_with fail
      have HW := Lib.hid (show RkAt (((w.alloc (boxR r)).drewN nq).setCell ⟨X, 4, none⟩ (.bool true)) X ⟨x.floor, x.rtt, x.order, x.fin, true, x.mult, x.round, x.rest⟩ from RkAt.put (x := x) 4 _ (HH.out.drewN nq) rfl)
      have HK2 := Lib.hid (show Kept [X] w (((w.alloc (boxR r)).drewN nq).setCell ⟨X, 4, none⟩ (.bool true)) from (HK.out.drewN nq).trans (kset _ X 4 _) (by simp))
      have e1 : (((w.alloc (boxR r)).drewN nq).setCell ⟨X, 4, none⟩ (.bool true)).cell? ⟨w.heap.size, 1, none⟩ = some (.int .i64 r.t) := (kset _ X 4 _).cell (by simpa using hXn.symm) d1
      clear d0 d1 d2 d3 d4 d5 d6 c0 c1 c2 c3 c4 c5 c6 c7 f3 f4 HK HH
      generalize ((w.alloc (boxR r)).drewN nq).setCell ⟨X, 4, none⟩ (.bool true) = W at *
      obtain ⟨c0, c1, c2, c3, c4, c5, c6, c7⟩ := HW.out.cs
      have f3 := HW.out.f 3
      (try dsimp only at c3)
      go_still_tail 11, (by kernel_rfl)
      go_wp2_with fail
      all_goals
        go_end0
        refine ⟨⟨_, rfl⟩, ?_, (HK2.out.drew).trans (kset _ X 3 _) (by simp)⟩
        exact RkAt.put (x := ⟨x.floor, x.rtt, x.order, x.fin, true, x.mult, x.round, x.rest⟩) 3 _ (w := W.drew) HW.out (by simp [rkC] <;> omega)
    · have h3b := decide_eq_false h3
      have h3' : x.fin ≤ r.t := by omega
      have hmx : max x.fin r.t = r.t := by omega
      have HM := Lib.hid (And.intro (show (x.mixed || (decide (r.times = 1) && decide (r.t < x.fin))) = x.mixed from by simp [h3]) hmx)
      rw [HM.out.1, HM.out.2]
      clear h2 hmx
      go_enter Try.func43, Try.ntmps43
      go_wp2_with fail
      go_quiet (fail)
      go_wp2_with fail
      have HW := Lib.hid (show RkAt ((w.alloc (boxR r)).drewN nq) X x from HH.out.drewN nq)
      have HK2 := Lib.hid (show Kept [X] w ((w.alloc (boxR r)).drewN nq) from HK.out.drewN nq)
      have e1 : ((w.alloc (boxR r)).drewN nq).cell? ⟨w.heap.size, 1, none⟩ = some (.int .i64 r.t) := d1
      clear d0 d1 d2 d3 d4 d5 d6 c0 c1 c2 c3 c4 c5 c6 c7 f3 f4 HK HH
      generalize (w.alloc (boxR r)).drewN nq = W at *
      obtain ⟨c0, c1, c2, c3, c4, c5, c6, c7⟩ := HW.out.cs
      have f3 := HW.out.f 3
      (try dsimp only at c3)
      go_still_tail 11, (by kernel_rfl)
      go_wp2_with fail
      all_goals
        go_end0
        refine ⟨⟨_, rfl⟩, ?_, (HK2.out.drew).trans (kset _ X 3 _) (by simp)⟩
        exact RkAt.put (x := x) 3 _ (w := W.drew) HW.out (by simp [rkC] <;> omega)
  · have h2b : (r.times == 1) = false := by simpa using h2
    have HM : Hid ((x.mixed || (decide (r.times = 1) && decide (r.t < x.fin))) = x.mixed) := Lib.hid (by simp [h2])
    rw [HM.out]
    clear h2
    by_cases h3 : r.t < x.fin
    · have hmx : max x.fin r.t = x.fin := by omega
      have HMX := Lib.hid hmx
      rw [HMX.out]
      clear hmx
      go_enter Try.func43, Try.ntmps43
      go_wp2_with fail
      go_quiet (fail)
      go_wp2_with fail
      have HW := Lib.hid (show RkAt ((w.alloc (boxR r)).drewN nq) X x from HH.out.drewN nq)
      have HK2 := Lib.hid (show Kept [X] w ((w.alloc (boxR r)).drewN nq) from HK.out.drewN nq)
      have e1 : ((w.alloc (boxR r)).drewN nq).cell? ⟨w.heap.size, 1, none⟩ = some (.int .i64 r.t) := d1
      clear d0 d1 d2 d3 d4 d5 d6 c0 c1 c2 c3 c4 c5 c6 c7 f3 f4 HK HH
      generalize (w.alloc (boxR r)).drewN nq = W at *
      obtain ⟨c0, c1, c2, c3, c4, c5, c6, c7⟩ := HW.out.cs
      have f3 := HW.out.f 3
      (try dsimp only at c3)
      go_still_tail 11, (by kernel_rfl)
      go_wp2_with fail
      all_goals
        go_end0
        refine ⟨⟨_, rfl⟩, ?_, (HK2.out.drew).trans (kset _ X 3 _) (by simp)⟩
        exact RkAt.put (x := x) 3 _ (w := W.drew) HW.out (by simp [rkC] <;> omega)
    · have h3' : x.fin ≤ r.t := by omega
      have hmx : max x.fin r.t = r.t := by omega
      have HMX := Lib.hid hmx
      rw [HMX.out]
      clear hmx
      go_enter Try.func43, Try.ntmps43
      go_wp2_with fail
      go_quiet (fail)
      go_wp2_with fail
      have HW := Lib.hid (show RkAt ((w.alloc (boxR r)).drewN nq) X x from HH.out.drewN nq)
      have HK2 := Lib.hid (show Kept [X] w ((w.alloc (boxR r)).drewN nq) from HK.out.drewN nq)
      have e1 : ((w.alloc (boxR r)).drewN nq).cell? ⟨w.heap.size, 1, none⟩ = some (.int .i64 r.t) := d1
      clear d0 d1 d2 d3 d4 d5 d6 c0 c1 c2 c3 c4 c5 c6 c7 f3 f4 HK HH
      generalize (w.alloc (boxR r)).drewN nq = W at *
      obtain ⟨c0, c1, c2, c3, c4, c5, c6, c7⟩ := HW.out.cs
      have f3 := HW.out.f 3
      (try dsimp only at c3)
      go_still_tail 11, (by kernel_rfl)
      go_wp2_with fail
      all_goals
        go_end0
        refine ⟨⟨_, rfl⟩, ?_, (HK2.out.drew).trans (kset _ X 3 _) (by simp)⟩
        exact RkAt.put (x := x) 3 _ (w := W.drew) HW.out (by simp [rkC] <;> omega)
set_option maxHeartbeats 1000000 in
theorem dup_any {w : World} {X : Nat} {x : Rk} (h : RkAt w X x) (ho : Ok x) (una nxt : Int) : Calls Try.prog 28 #[.pointer (some ⟨X, 0, none⟩), .int .i64 una, .int .i64 nxt] w fun e w' => e = .returned (.bool (dupB x una)) ∧ RkAt w' X (dup x una nxt) ∧ Kept [X] w w' := by
  obtain ⟨c0, c1, c2, c3, c4, c5, c6, c7⟩ := h.cs
  have f5 := h.f 5; have f6 := h.f 6; have f7 := h.f 7
  obtain ⟨m0, m1⟩ := ho.m
  have HH := Lib.hid h
  clear h ho
  by_cases h1 : una < x.round
  · have HB : Hid (dupB x una = false ∧ dup x una nxt = x) := Lib.hid (by unfold dup dupB; simp [h1])
    rw [HB.out.1, HB.out.2]
    clear HB
    go_enter Try.func28, Try.ntmps28
    go_wp2_with fail
    go_ret
    exact ⟨rfl, HH.out, Kept.refl _ _⟩
  · have HB : Hid (dupB x una = true ∧ dup x una nxt = ⟨x.floor, x.rtt, x.order, x.fin, x.mixed, min (x.mult + 1) 16, nxt, 16⟩) := Lib.hid (by unfold dup dupB; simp [h1])
    rw [HB.out.1, HB.out.2]
    clear HB
    by_cases h2 : x.mult = 16
    · have hmn : min (x.mult + 1) 16 = 16 := by omega
      rw [hmn]
      clear hmn
      have h3 : 16 ≤ x.mult := by omega
      clear h2
      go_enter Try.func28, Try.ntmps28
      go_wp2_with fail
      go_ret
      exact ⟨rfl, RkAt.put (x := ⟨x.floor, x.rtt, x.order, x.fin, x.mixed, 16, nxt, x.rest⟩) 7 _ (RkAt.put (x := ⟨x.floor, x.rtt, x.order, x.fin, x.mixed, 16, x.round, x.rest⟩) 6 _ (RkAt.put 5 _ HH.out rfl) rfl) rfl, (((Kept.refl [X] w).setCell (.inl (by simp)) _).setCell (.inl (by simp)) _).setCell (.inl (by simp)) _⟩
    · have hmn : min (x.mult + 1) 16 = x.mult + 1 := by omega
      rw [hmn]
      clear hmn
      have h3 : x.mult + 1 ≤ 16 := by omega
      clear h2
      go_enter Try.func28, Try.ntmps28
      go_wp2_with fail
      go_ret
      exact ⟨rfl, RkAt.put (x := ⟨x.floor, x.rtt, x.order, x.fin, x.mixed, x.mult + 1, nxt, x.rest⟩) 7 _ (RkAt.put (x := ⟨x.floor, x.rtt, x.order, x.fin, x.mixed, x.mult + 1, x.round, x.rest⟩) 6 _ (RkAt.put 5 _ HH.out rfl) rfl) rfl, (((Kept.refl [X] w).setCell (.inl (by simp)) _).setCell (.inl (by simp)) _).setCell (.inl (by simp)) _⟩
set_option maxHeartbeats 1000000 in
theorem calm_any {w : World} {X : Nat} {x : Rk} (h : RkAt w X x) (ho : Ok x) : Calls Try.prog 27 #[.pointer (some ⟨X, 0, none⟩)] w (RetK X (calm x) w) := by
  obtain ⟨c0, c1, c2, c3, c4, c5, c6, c7⟩ := h.cs
  have f5 := h.f 5; have f7 := h.f 7
  obtain ⟨p0, p1⟩ := ho.p
  have HH := Lib.hid h
  clear h ho
  by_cases h1 : x.rest = 1
  · have HB : Hid (calm x = ⟨x.floor, x.rtt, x.order, x.fin, x.mixed, 1, x.round, 16⟩) := Lib.hid (by unfold calm; rw [if_pos h1])
    rw [HB.out]
    have h2 : (x.rest - 1 == 0) = true := by simp; omega
    clear HB h1
    go_enter Try.func27, Try.ntmps27
    go_wp2_with fail
    go_end0
    exact ⟨⟨_, rfl⟩, RkAt.put (x := ⟨x.floor, x.rtt, x.order, x.fin, x.mixed, 1, x.round, x.rest - 1⟩) 7 _ (RkAt.put (x := ⟨x.floor, x.rtt, x.order, x.fin, x.mixed, x.mult, x.round, x.rest - 1⟩) 5 _ (RkAt.put 7 _ HH.out rfl) rfl) rfl, (((Kept.refl [X] w).setCell (.inl (by simp)) _).setCell (.inl (by simp)) _).setCell (.inl (by simp)) _⟩
  · have HB : Hid (calm x = ⟨x.floor, x.rtt, x.order, x.fin, x.mixed, x.mult, x.round, x.rest - 1⟩) := Lib.hid (by unfold calm; rw [if_neg h1])
    rw [HB.out]
    have h2 : (x.rest - 1 == 0) = false := by simp; omega
    clear HB h1
    go_enter Try.func27, Try.ntmps27
    go_wp2_with fail
    go_end0
    exact ⟨⟨_, rfl⟩, RkAt.put 7 _ HH.out rfl, (Kept.refl [X] w).setCell (.inl (by simp)) _⟩
/-! what is asked -/
theorem rtt_q {w : World} {X : Nat} {x : Rk} (h : RkAt w X x) : Q 24 #[.pointer (some ⟨X, 0, none⟩)] (.int .i64 x.rtt) w := by
  refine Q.of fun n => ?_
  have c := (h.drewN n).cs.2.1
  generalize w.drewN n = w at *
  go_enter Try.func24, Try.ntmps24
  go_wp2
  go_ret
  exact ⟨rfl, rfl⟩
theorem order_q {w : World} {X : Nat} {x : Rk} (h : RkAt w X x) : Q 25 #[.pointer (some ⟨X, 0, none⟩)] (.int .i64 x.order) w := by
  refine Q.of fun n => ?_
  have c := (h.drewN n).cs.2.2.1
  generalize w.drewN n = w at *
  go_enter Try.func25, Try.ntmps25
  go_wp2
  go_ret
  exact ⟨rfl, rfl⟩
theorem mixed_q {w : World} {X : Nat} {x : Rk} (h : RkAt w X x) : Q 30 #[.pointer (some ⟨X, 0, none⟩)] (.bool x.mixed) w := by
  refine Q.of fun n => ?_
  have c := (h.drewN n).cs.2.2.2.2.1
  generalize w.drewN n = w at *
  go_enter Try.func30, Try.ntmps30
  go_wp2
  go_ret
  exact ⟨rfl, rfl⟩
theorem mult_q {w : World} {X : Nat} {x : Rk} (h : RkAt w X x) : Q 29 #[.pointer (some ⟨X, 0, none⟩)] (.int .i64 x.mult) w := by
  refine Q.of fun n => ?_
  have c := (h.drewN n).cs.2.2.2.2.2.1
  generalize w.drewN n = w at *
  go_enter Try.func29, Try.ntmps29
  go_wp2
  go_ret
  exact ⟨rfl, rfl⟩
set_option maxHeartbeats 1000000 in
theorem clone_any {w : World} {X : Nat} {x : Rk} (h : RkAt w X x) : Calls Try.prog 15 #[.pointer (some ⟨X, 0, none⟩)] w
    fun e w' => e = .returned (.pointer (some ⟨w.heap.size, 0, none⟩)) ∧ RkAt w' w.heap.size x ∧ Below w.heap.size w w' := by
  obtain ⟨c0, c1, c2, c3, c4, c5, c6, c7⟩ := h.cs
  go_enter Try.func15, Try.ntmps15
  go_wp2_with fail
  go_ret
  exact ⟨rfl, heap_alloc_new w _, al w _⟩
set_option maxHeartbeats 1000000 in
theorem window_any {w : World} {X : Nat} {x : Rk} (h : RkAt w X x) (ho : Ok x) (least : Int) (has : Bool) (srtt : Int) (sharp : Bool) :
    Calls Try.prog 13 #[.pointer (some ⟨X, 0, none⟩), .int .i64 least, .bool has, .int .i64 srtt, .bool sharp] w fun e w' => e = .returned (.int .i64 (win x least has srtt sharp)) ∧ Below w.heap.size w w' := by
  have HE := Lib.hid (show win x least has srtt sharp = if !has || (sharp && !x.mixed) then x.floor else max (min (x.mult * hld least / 4) (hld srtt)) x.floor from rfl)
  rw [HE.out]
  clear HE
  obtain ⟨c0, c1, c2, c3, c4, c5, c6, c7⟩ := h.cs
  obtain ⟨m0, m1⟩ := ho.m
  have HL := Lib.hid (fun W => hold_q least W)
  have HS := Lib.hid (fun W => hold_q srtt W)
  have hl := hld_bd least
  generalize hld least = a at *
  generalize hld srtt = b at *
  obtain ⟨a0, a1⟩ := hl
  obtain ⟨floor, rtt, order, fin, mixed, mult, round, rest⟩ := x
  dsimp only at *
  clear h ho
  have hma : 0 ≤ mult * a ∧ mult * a ≤ 1099511627776 := ⟨Int.mul_nonneg (by omega) a0, Int.le_trans (Int.mul_le_mul m1 a1 a0 (by omega)) (by omega)⟩
  obtain ⟨ma0, ma1⟩ := hma
  cases has with
  | false =>
    go_enter Try.func13, Try.ntmps13
    go_wp2_with fail
    go_ret
    exact ⟨rfl, Below.refl _ _⟩
  | true =>
    rcases (show (sharp && !mixed) = true ∨ (sharp && !mixed) = false from by cases (sharp && !mixed) <;> simp) with hsm | hsm
    · obtain ⟨rfl, rfl⟩ : sharp = true ∧ mixed = false := by simpa using hsm
      go_enter Try.func13, Try.ntmps13
      go_wp2_with fail
      go_ret
      exact ⟨rfl, Below.refl _ _⟩
    · rw [hsm]
      have hw : IntKind.i64.wrap (mult * a) = mult * a := IntWalk.i64_in _ (by omega)
      obtain ⟨q, hq⟩ : ∃ q, q = mult * a / 4 := ⟨_, rfl⟩
      have hq1 : (mult * a).tdiv 4 = q := by rw [hq]; exact Int.tdiv_eq_ediv_of_nonneg ma0
      have hq0 : 0 ≤ q ∧ q ≤ 1099511627776 := by omega
      obtain ⟨q0, q1⟩ := hq0
      have HQ := Lib.hid hq
      rw [← hq]
      clear hq
      cases sharp with
      | false =>
        go_enter Try.func13, Try.ntmps13
        go_wp2_with fail
        go_quiet ((go_at_call 33; go_must (exact HL.out _ _)))
        have d0 : (w.drewN nq).cell? ⟨X, 0, none⟩ = some (.int .i64 floor) := c0
        have hbb := belN w nq
        clear c0 c1 c2 c3 c4 c5 c6 c7
        generalize w.drewN nq = w1 at *
        go_wp2_with fail
        go_quiet ((go_at_call 33; go_must (exact HS.out _ _)))
        all_goals
          go_wp2_with fail
          all_goals
            go_ret
            exact ⟨ret_i (by (try simp) <;> omega), hbb.trans ((belN w1 _).mono hbb.size)⟩
      | true =>
        obtain rfl : mixed = true := by simpa using hsm
        go_enter Try.func13, Try.ntmps13
        go_wp2_with fail
        go_quiet ((go_at_call 33; go_must (exact HL.out _ _)))
        have d0 : (w.drewN nq).cell? ⟨X, 0, none⟩ = some (.int .i64 floor) := c0
        have hbb := belN w nq
        clear c0 c1 c2 c3 c4 c5 c6 c7
        generalize w.drewN nq = w1 at *
        go_wp2_with fail
        go_quiet ((go_at_call 33; go_must (exact HS.out _ _)))
        all_goals
          go_wp2_with fail
          all_goals
            go_ret
            exact ⟨ret_i (by (try simp) <;> omega), hbb.trans ((belN w1 _).mono hbb.size)⟩
end Go.Proofs.Ytpoifoanigpncaa.rk
