/-
  Package prr: Ack.
-/
import Derived.Test.YtlalcekfjbiecaaPrrW
namespace Go.Proofs.Ytlalcekfjbiecaa.pr
open Go.RowKit aid mem
attribute [local go_sem ↓] Go.wp_at_zero Go.wp_at_succ
set_option linter.unusedVariables false
set_option linter.unusedSimpArgs false

/-- the boxes of a call: who is asked, the pipe, what came -/
structure AB (w0 : World) (B : Nat) (x : Pr) (pipe c : Int) (w : World) : Prop where
  at_ : PrAt w B x
  b0 : w.heap[w0.heap.size]? = some (.cells #[.pointer (some ⟨B, 0, none⟩)] 24 (0, 0))
  b1 : w.heap[w0.heap.size + 1]? = some (.cells #[.int .i64 pipe] 3 (0, 0))
  b2 : w.heap[w0.heap.size + 1 + 1]? = some (.cells #[.int .i64 c] 3 (0, 0))
  xl : B < w0.heap.size
  kept : Kept [B] w0 w
theorem shrink_any {w0 w : World} {B : Nat} {x : Pr} {pipe c : Int} (h : AB w0 B x pipe c w) (ho : Ok x) : Q 23 #[.pointer (some ⟨w0.heap.size, 0, none⟩)] (.int .i64 (sh x - x.out)) w := by
  refine Q.mk fun n => ?_
  have HS := Lib.hid (share_q (h.at_.drewN n) ho)
  have hs := sh_bd ho
  have hd := ho.d1; have o0 := ho.o0; have ol := ho.ol; have l0 := ho.l0
  obtain ⟨c0, c1, c2, c3, c4, c5, c6⟩ := (h.at_.drewN n).cs
  have p0 := (cell_of_row w _ 0 _ _ (0, 0) h.b0).trans (show _ = some (.pointer (some ⟨B, 0, none⟩)) from rfl)
  replace p0 : (w.drewN n).cell? ⟨w0.heap.size, 0, none⟩ = _ := p0
  have hw := IntWalk.i64_in (sh x - x.out) (by omega)
  clear h ho
  generalize w.drewN n = W at *
  go_enter Try.func23, Try.ntmps23
  go_wp2_with fail
  go_quiet ((go_at_call 24; exact HS.out _))
  go_wp2
  go_ret
  exact ⟨rfl, _, rfl⟩
theorem min_if (a b : Int) : (if b < a then b else a) = min a b := by split <;> omega
theorem max_if (a b : Int) : (if a < b then b else a) = max a b := by split <;> omega
set_option maxHeartbeats 2000000 in
theorem refill_any {w0 w : World} {B : Nat} {x : Pr} {pipe c : Int} (h : AB w0 B x pipe c w) (ho : Ok x) (hc : 0 ≤ c ∧ c ≤ 1048576) (hp : -9223372036854775808 ≤ pipe ∧ pipe ≤ 9223372036854775807) :
    Q 25 #[.pointer (some ⟨w0.heap.size, 0, none⟩), .pointer (some ⟨w0.heap.size + 1, 0, none⟩), .pointer (some ⟨w0.heap.size + 1 + 1, 0, none⟩)] (.int .i64 (min (x.thresh - max pipe 0) (max (x.del - x.out) c + x.mss))) w := by
  refine Q.mk fun n => ?_
  have m0 := ho.m0; have m1 := ho.m1; have t0 := ho.t0; have t1 := ho.t1; have w1 := ho.w1; have d0 := ho.d0; have d1 := ho.d1; have o0 := ho.o0; have ol := ho.ol; have l0 := ho.l0
  obtain ⟨c0, c1, c2, c3, c4, c5, c6⟩ := (h.at_.drewN n).cs
  have p0 := (cell_of_row w _ 0 _ _ (0, 0) h.b0).trans (show _ = some (.pointer (some ⟨B, 0, none⟩)) from rfl)
  have p1 := (cell_of_row w _ 0 _ _ (0, 0) h.b1).trans (show _ = some (.int .i64 pipe) from rfl)
  have p2 := (cell_of_row w _ 0 _ _ (0, 0) h.b2).trans (show _ = some (.int .i64 c) from rfl)
  replace p0 : (w.drewN n).cell? ⟨w0.heap.size, 0, none⟩ = _ := p0
  replace p1 : (w.drewN n).cell? ⟨w0.heap.size + 1, 0, none⟩ = _ := p1
  replace p2 : (w.drewN n).cell? ⟨w0.heap.size + 1 + 1, 0, none⟩ = _ := p2
  obtain ⟨hc0, hc1⟩ := hc
  obtain ⟨hp0, hp1⟩ := hp
  clear h ho
  generalize w.drewN n = W at *
  go_enter Try.func25, Try.ntmps25
  go_wp2_with fail
  go_quiet (fail)
  simp only [max_if, min_if]
  go_wp2
  go_ret
  exact ⟨ret_i (by rw [Int.min_comm]), _, rfl⟩
theorem AB.later {w0 w w' : World} {B : Nat} {x : Pr} {pipe c : Int} (h : AB w0 B x pipe c w) (hb : Below w.heap.size w w') : AB w0 B x pipe c w' :=
  ⟨h.at_.later hb, (hb.block _ (lt_of_block h.b0)).trans h.b0, (hb.block _ (lt_of_block h.b1)).trans h.b1, (hb.block _ (lt_of_block h.b2)).trans h.b2, h.xl, h.kept.trans (Kept.of_below hb (Nat.le_refl _) []) (by simp)⟩
theorem AB.drew {w0 w : World} {B : Nat} {x : Pr} {pipe c : Int} (h : AB w0 B x pipe c w) : AB w0 B x pipe c w.drew := ⟨h.at_, h.b0, h.b1, h.b2, h.xl, h.kept.drew⟩
theorem AB.drewN {w0 w : World} {B : Nat} {x : Pr} {pipe c : Int} (h : AB w0 B x pipe c w) (n : Nat) : AB w0 B x pipe c (w.drewN n) := ⟨h.at_, h.b0, h.b1, h.b2, h.xl, h.kept.drewN n⟩
theorem AB.put {w0 w : World} {B : Nat} {x x' : Pr} {pipe c : Int} (h : AB w0 B x pipe c w) (i : Nat) (u : Value) (hx : (cellsP x).setIfInBounds i u = cellsP x') : AB w0 B x' pipe c (w.setCell ⟨B, i, none⟩ u) := by
  have hk := kset w B i u
  have := h.xl
  exact ⟨PrAt.put i u h.at_ hx, hk.heap (by simp; omega) h.b0, hk.heap (by simp; omega) h.b1, hk.heap (by simp; omega) h.b2, h.xl, h.kept.trans hk (by simp)⟩
theorem AB.cs {w0 w : World} {B : Nat} {x : Pr} {pipe c : Int} (h : AB w0 B x pipe c w) : w.cell? ⟨w0.heap.size, 0, none⟩ = some (.pointer (some ⟨B, 0, none⟩)) ∧ w.cell? ⟨w0.heap.size + 1, 0, none⟩ = some (.int .i64 pipe) ∧ w.cell? ⟨w0.heap.size + 1 + 1, 0, none⟩ = some (.int .i64 c) :=
  ⟨(cell_of_row w _ 0 _ _ (0, 0) h.b0).trans rfl, (cell_of_row w _ 0 _ _ (0, 0) h.b1).trans rfl, (cell_of_row w _ 0 _ _ (0, 0) h.b2).trans rfl⟩
theorem ab_new {w : World} {B : Nat} {x : Pr} (h : PrAt w B x) (pipe c : Int) : AB w B x pipe c (((w.alloc (.cells #[.pointer (some ⟨B, 0, none⟩)] 24)).alloc (.cells #[.int .i64 pipe] 3)).alloc (.cells #[.int .i64 c] 3)) := by
  have hX := h.lt
  have b1 := (Below.refl w.heap.size w).alloc (Nat.le_refl _) (.cells #[.pointer (some ⟨B, 0, none⟩)] 24)
  have y1 := heap_alloc_new w (.cells #[.pointer (some ⟨B, 0, none⟩)] 24)
  have z1 : (w.alloc (.cells #[.pointer (some ⟨B, 0, none⟩)] 24)).heap.size = w.heap.size + 1 := by simp
  have h1 := h.later b1
  generalize w.alloc (.cells #[.pointer (some ⟨B, 0, none⟩)] 24) = w1 at *
  have b2 := (Below.refl w1.heap.size w1).alloc (Nat.le_refl _) (.cells #[.int .i64 pipe] 3)
  have y2 := heap_alloc_new w1 (.cells #[.int .i64 pipe] 3)
  have z2 : (w1.alloc (.cells #[.int .i64 pipe] 3)).heap.size = w.heap.size + 1 + 1 := by simp [z1]
  rw [z1] at y2
  have h2 := h1.later b2
  have y3 := (b2.block _ (lt_of_block y1)).trans y1
  have bb := b1.trans (b2.mono b1.size)
  generalize w1.alloc (.cells #[.int .i64 pipe] 3) = w2 at *
  have b3 := (Below.refl w2.heap.size w2).alloc (Nat.le_refl _) (.cells #[.int .i64 c] 3)
  have y4 := heap_alloc_new w2 (.cells #[.int .i64 c] 3)
  rw [z2] at y4
  exact ⟨h2.later b3, (b3.block _ (lt_of_block y3)).trans y3, (b3.block _ (lt_of_block y2)).trans y2, y4, hX, Kept.of_below (bb.trans (b3.mono bb.size)) (Nat.le_refl _) _⟩
theorem ab_val {w0 w : World} {B : Nat} {x : Pr} {pipe c k : Int} (e : c = k) (h : AB w0 B x pipe c (w.alloc (.cells #[.int .i64 c] 3))) : AB w0 B x pipe c (w.alloc (.cells #[.int .i64 k] 3)) := by subst e; exact h
theorem cm_lo {d : Int} (h : d < 0) : cm d = 0 := by unfold cm; omega
theorem cm_mid {d : Int} (h : 0 ≤ d) (h1 : d ≤ 1048576) : cm d = d := by unfold cm; omega
theorem cm_hi {d : Int} (h : 1048576 < d) : cm d = 1048576 := by unfold cm; omega
set_option maxRecDepth 100000 in
set_option maxHeartbeats 4000000 in
theorem ack_any {w : World} {B : Nat} {x : Pr} (h : PrAt w B x) (ho : Ok x) (d pipe : Int) (hp : -9223372036854775808 ≤ pipe ∧ pipe ≤ 9223372036854775807) :
    Calls Try.prog 19 #[.pointer (some ⟨B, 0, none⟩), .int .i64 d, .int .i64 pipe] w (RetP (.int .i64 (ack x d pipe).left) B (ack x d pipe) w) := by
  have HN := Lib.hid (fun c => ab_new h pipe c)
  have hcb := cm_bd d
  have d0 := ho.d0; have d1 := ho.d1
  have HAD : Hid (ackD x d = ⟨x.mss, x.thresh, x.whole, min (x.del + cm d) 1099511627776, x.out, x.left, x.first⟩) := Lib.hid rfl
  have HO2 := Lib.hid (ho.ackD d)
  have HAE : Hid (ack x d pipe = putL (ackD x d) (max (room (ackD x d) (cm d) pipe) 0)) := Lib.hid rfl
  rw [HAE.out]
  clear HAE ho h
  have HWR := Lib.hid (show (if 1099511627776 < IntKind.i64.wrap (x.del + cm d) then 1099511627776 else IntKind.i64.wrap (x.del + cm d)) = min (x.del + cm d) 1099511627776 from by rw [IntWalk.i64_in (x.del + cm d) (by omega)]; split <;> omega)
  have HCL := Lib.hid (fun h => cm_lo (d := d) h)
  have HCM := Lib.hid (fun h h' => cm_mid (d := d) h h')
  have HCH := Lib.hid (fun h => cm_hi (d := d) h)
  generalize hy : ackD x d = y at *
  clear hy
  generalize cm d = c at *
  obtain ⟨c0, c1, c2, c3, c4, c5, c6⟩ := (HN.out c).at_.cs
  obtain ⟨p0, p1, p2⟩ := (HN.out c).cs
  go_enter Try.func19, Try.ntmps19
  go_upto_region 3 with fail
  go_cut [7] (fun s7 wx => s7 = .pointer (some ⟨w.heap.size + 1 + 1, 0, none⟩) ∧ Hid (AB w B x pipe c wx))
  case first =>
    by_cases h1 : d < 0
    · have H := Lib.hid (ab_val (HCL.out h1) (HN.out c))
      clear HN HCL HCM HCH
      go_wp2_with fail
      go_meet
      exact ⟨rfl, H⟩
    · by_cases h2 : d ≤ 1048576
      · have H := Lib.hid (ab_val (HCM.out (by omega) h2) (HN.out c))
        clear HN HCL HCM HCH
        go_wp2_with fail
        go_meet
        exact ⟨rfl, H⟩
      · have h3 : 1048576 < d := by omega
        have H := Lib.hid (ab_val (HCH.out h3) (HN.out c))
        clear HN HCL HCM HCH
        go_wp2_with fail
        go_meet
        exact ⟨rfl, H⟩
  case rest =>
    obtain ⟨rfl, HA⟩ := hcut
    clear HN HCL HCM HCH c0 c1 c2 c3 c4 c5 c6 p0 p1 p2
    generalize wc = W at *
    obtain ⟨c0, c1, c2, c3, c4, c5, c6⟩ := HA.out.at_.cs
    obtain ⟨p0, p1, p2⟩ := HA.out.cs
    go_wp2_with fail
    go_still_tail 8, (by kernel_rfl)
    rw [HWR.out]
    change wpList _ _ _ _ _ W.drew
    replace HA := Lib.hid HA.out.drew
    clear c0 c1 c2 c3 c4 c5 c6 p0 p1 p2
    generalize W.drew = W at *
    obtain ⟨c0, c1, c2, c3, c4, c5, c6⟩ := HA.out.at_.cs
    obtain ⟨p0, p1, p2⟩ := HA.out.cs
    have f3 := HA.out.at_.f 3
    generalize min (x.del + c) 1099511627776 = u at *
    have HB : Hid (AB w B y pipe c (W.setCell ⟨B, 3, none⟩ (.int .i64 u))) := Lib.hid (HA.out.put 3 _ (by rw [HAD.out]; rfl))
    go_wp2_with fail
    clear HA HAD HWR c0 c1 c2 c3 c4 c5 c6 p0 p1 p2 f3
    generalize W.setCell ⟨B, 3, none⟩ (.int .i64 u) = W at *
    obtain ⟨c0, c1, c2, c3, c4, c5, c6⟩ := HB.out.at_.cs
    obtain ⟨p0, p1, p2⟩ := HB.out.cs
    by_cases hr : y.thresh < pipe
    · have HR : Hid (room y c pipe = sh y - y.out) := Lib.hid (if_pos hr)
      go_quiet (fail)
      go_wp2_with fail
      replace HB := Lib.hid (HB.out.drewN nq)
      clear c0 c1 c2 c3 c4 c5 c6 p0 p1 p2
      generalize W.drewN nq = W at *
      have HQ := Lib.hid (shrink_any HB.out.drew HO2.out).at
      have HRB := Lib.hid (room_bd HO2.out hcb pipe)
      generalize sh y - y.out = r at *
      have HM := Lib.hid (show (if r < 0 then 0 else r) = max r 0 from by split <;> omega)
      have HNE := Lib.hid (show B ≠ w.heap.size from by have := HB.out.xl; omega)
      go_region_held3 (fun w' => w'.cell? ⟨w.heap.size, 0, none⟩ = some (.pointer (some ⟨B, 0, none⟩))) (first | with_reducible exact (HB.out.drewN _).cs.1 | exact (kset _ B 5 _).cell (by simpa using HNE.out.symm) (HB.out.drewN _).cs.1 | with_reducible exact HB.out.drew.cs.1 | go_keep)
        ((go_at_call 23; (with_reducible refine HQ.out.mono ?_); rintro e w5 ⟨rfl, m, rfl⟩; have H5 := Lib.hid (HB.out.drewN (1 + m)); have f5 := H5.out.at_.f 5; have c5 := H5.out.at_.cs.2.2.2.2.2.1))
      rw [HM.out]
      have HU : Hid (max (room y c pipe) 0 = max r 0) := Lib.hid (by rw [HR.out])
      clear HM HRB c5 f5 HR
      generalize max r 0 = u at *
      have H7 : Hid (AB w B (putL y u) pipe c ((W.drewN (1 + m)).setCell ⟨B, 5, none⟩ (.int .i64 u))) := Lib.hid (H5.out.put 5 _ rfl)
      clear H5 HB HQ
      generalize (W.drewN (1 + m)).setCell ⟨B, 5, none⟩ (.int .i64 u) = V at *
      obtain ⟨c0, c1, c2, c3, c4, c5, c6⟩ := H7.out.at_.cs
      obtain ⟨p0, p1, p2⟩ := H7.out.cs
      go_wp2_with fail
      go_ret
      rw [HU.out]
      exact ⟨rfl, H7.out.at_, H7.out.kept⟩
    · have HR : Hid (room y c pipe = min (y.thresh - max pipe 0) (max (y.del - y.out) c + y.mss)) := Lib.hid (if_neg hr)
      go_quiet (fail)
      go_wp2_with fail
      replace HB := Lib.hid (HB.out.drewN nq)
      clear c0 c1 c2 c3 c4 c5 c6 p0 p1 p2
      generalize W.drewN nq = W at *
      have HQ := Lib.hid (refill_any HB.out.drew HO2.out hcb hp).at
      have HRB := Lib.hid (room_bd HO2.out hcb pipe)
      generalize min (y.thresh - max pipe 0) (max (y.del - y.out) c + y.mss) = r at *
      have HM := Lib.hid (show (if r < 0 then 0 else r) = max r 0 from by split <;> omega)
      have HNE := Lib.hid (show B ≠ w.heap.size from by have := HB.out.xl; omega)
      go_region_held3 (fun w' => w'.cell? ⟨w.heap.size, 0, none⟩ = some (.pointer (some ⟨B, 0, none⟩))) (first | with_reducible exact (HB.out.drewN _).cs.1 | exact (kset _ B 5 _).cell (by simpa using HNE.out.symm) (HB.out.drewN _).cs.1 | with_reducible exact HB.out.drew.cs.1 | go_keep)
        ((go_at_call 25; (with_reducible refine HQ.out.mono ?_); rintro e w5 ⟨rfl, m, rfl⟩; have H5 := Lib.hid (HB.out.drewN (1 + m)); have f5 := H5.out.at_.f 5; have c5 := H5.out.at_.cs.2.2.2.2.2.1))
      rw [HM.out]
      have HU : Hid (max (room y c pipe) 0 = max r 0) := Lib.hid (by rw [HR.out])
      clear HM HRB c5 f5 HR
      generalize max r 0 = u at *
      have H7 : Hid (AB w B (putL y u) pipe c ((W.drewN (1 + m)).setCell ⟨B, 5, none⟩ (.int .i64 u))) := Lib.hid (H5.out.put 5 _ rfl)
      clear H5 HB HQ
      generalize (W.drewN (1 + m)).setCell ⟨B, 5, none⟩ (.int .i64 u) = V at *
      obtain ⟨c0, c1, c2, c3, c4, c5, c6⟩ := H7.out.at_.cs
      obtain ⟨p0, p1, p2⟩ := H7.out.cs
      go_wp2_with fail
      go_ret
      rw [HU.out]
      exact ⟨rfl, H7.out.at_, H7.out.kept⟩
end Go.Proofs.Ytlalcekfjbiecaa.pr
