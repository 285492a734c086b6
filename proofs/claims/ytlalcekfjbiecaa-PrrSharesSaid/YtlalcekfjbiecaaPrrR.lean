/-
  The reference's episodes.
-/
import Derived.Test.YtlalcekfjbiecaaPrrA
namespace Go.Proofs.Ytlalcekfjbiecaa.pr
open Go.RowKit aid mem
attribute [local go_sem ↓] Go.wp_at_zero Go.wp_at_succ
set_option linter.unusedVariables false
set_option linter.unusedSimpArgs false

abbrev prV (x : Pr) : Value := .agg (cellsP x)
abbrev prO (x : Pr) : Obj := .cells (cellsP x) 30
theorem al (w : World) (o : Obj) : Below w.heap.size w (w.alloc o) := (Below.refl _ _).alloc (Nat.le_refl _) _
theorem bal2 {w : World} (a b : Obj) : Below w.heap.size w ((w.alloc a).alloc b) := ((Below.refl _ _).alloc (Nat.le_refl _) _).alloc (by simp) _
def RetR (y : Pr) (w : World) (e : Ending) (w' : World) : Prop := e = .returned (prV y) ∧ Below w.heap.size w w'
theorem right_any (m f t : Int) (w : World) : Calls Try.prog 9 #[.int .i64 m, .int .i64 f, .int .i64 t] w fun x w' => x = .returned (.bool (newB m f t)) ∧ w = w' := by
  unfold newB
  go_enter Try.func9, Try.ntmps9
  by_cases h1 : 1 ≤ m <;> by_cases h2 : m ≤ 2048 <;> by_cases h3 : 0 ≤ f <;> by_cases h4 : f ≤ 1048576 <;> by_cases h5 : 1 ≤ t <;> go_wp2
  all_goals
    go_ret
    exact ⟨ret_b (by simp [*] <;> omega), rfl⟩
theorem rnew_any (m f t : Int) (w : World) : Calls Try.prog 10 #[.int .i64 m, .int .i64 f, .int .i64 t] w (RetR ⟨m, t, max f t, 0, 0, 0, false⟩ w) := by
  by_cases hc : f < t
  · have hm : max f t = t := by omega
    rw [hm]
    clear hm
    go_enter Try.func10, Try.ntmps10
    go_wp2_with fail
    exact bodyPost_ret (v := prV ⟨m, t, t, 0, 0, 0, false⟩) (by simp [results, Try.results10, go_sem]) rfl ⟨rfl, al _ _⟩
  · have hm : max f t = f := by omega
    rw [hm]
    clear hm
    go_enter Try.func10, Try.ntmps10
    go_wp2_with fail
    exact bodyPost_ret (v := prV ⟨m, t, f, 0, 0, 0, false⟩) (by simp [results, Try.results10, go_sem]) rfl ⟨rfl, al _ _⟩
set_option maxHeartbeats 2000000 in
theorem rsent_any {w : World} {x : Pr} (ho : Ok x) {n : Int} (h0 : 0 ≤ n) (h1 : n ≤ x.left) : Calls Try.prog 21 #[prV x, .int .i64 n] w (RetR (sent x n) w) := by
  have o0 := ho.o0; have l0 := ho.l0; have ol := ho.ol
  obtain ⟨mss, thresh, whole, del, out, left, first⟩ := x
  dsimp only at *
  clear ho
  go_enter Try.func21, Try.ntmps21
  go_wp2_with fail
  exact bodyPost_ret (v := prV (sent ⟨mss, thresh, whole, del, out, left, first⟩ n)) (by simp [results, Try.results21, go_sem, sent]) rfl ⟨rfl, bal2 _ _⟩
set_option maxHeartbeats 2000000 in
theorem rshare_any {w : World} {x : Pr} (ho : Ok x) : Calls Try.prog 26 #[prV x] w fun e w' => e = .returned (.int .i64 (sh x)) ∧ Below w.heap.size w w' := by
  obtain ⟨hp0, hp1⟩ := prod_bd ho
  have hw : 1 ≤ x.whole := by have := ho.t0; have := ho.t1; omega
  have hw1 := ho.w1
  have hd1 := ho.d1
  have HV := Lib.hid (cd_ref (P := x.del * x.thresh) hw)
  have hs := sh_bd ho
  unfold sh at hs ⊢
  have hq : 0 ≤ x.del * x.thresh / x.whole := Int.ediv_nonneg hp0 (by omega)
  have hq1 : x.del * x.thresh / x.whole ≤ 1099511627776 := by rw [HV.out] at hs; split at hs <;> omega
  have hr := Int.emod_nonneg (x.del * x.thresh) (b := x.whole) (by omega)
  have hr1 := Int.emod_lt_of_pos (x.del * x.thresh) (b := x.whole) (by omega)
  rw [HV.out]
  have hne : (x.whole == 0) = false := by simp; omega
  have hb := al w (prO x)
  have HB := Lib.hid hb
  obtain ⟨mss, thresh, whole, del, out, left, first⟩ := x
  dsimp only at *
  clear ho hs hb HV
  have HD : Hid (IntKind.i64.wrap ((del * thresh).tdiv whole) = del * thresh / whole) := Lib.hid (by rw [Int.tdiv_eq_ediv_of_nonneg hp0]; exact IntWalk.i64_in _ (by omega))
  have HM : Hid ((del * thresh).tmod whole = del * thresh % whole) := Lib.hid (Int.tmod_eq_emod_of_nonneg hp0)
  go_enter Try.func26, Try.ntmps26
  by_cases hc : 0 < del * thresh % whole
  · rw [if_pos hc]
    go_wp2_with fail
    go_ret
    exact ⟨rfl, HB.out⟩
  · rw [if_neg hc]
    go_wp2_with fail
    go_ret
    exact ⟨ret_i (by simp), HB.out⟩
theorem ret_v {k : IntKind} {a b : Int} (h : a = b) : Value.int k a = Value.int k b := by rw [h]
abbrev zero : Pr := ⟨0, 0, 0, 0, 0, 0, false⟩
theorem cofr {w : World} {b : Nat} {cs : Array Value} {T : TypeId} (h : w.heap[b]? = some (.cells cs T (0, 0))) (i : Nat) (v : Value) (hv : cs[i]? = some v) : w.cell? ⟨b, i, none⟩ = some v := (cell_of_row w b i _ _ (0, 0) h).trans hv
theorem fofr {w : World} {b : Nat} {cs : Array Value} {T : TypeId} (h : w.heap[b]? = some (.cells cs T (0, 0))) (i : Nat) : w.frozen? ⟨b, i, none⟩ = false := by simp [World.frozen?, h]
abbrev putA (n : Nat) (y : Pr) (W : World) : World := ((((((W.setCell ⟨n, 0, none⟩ (.int .i64 y.mss)).setCell ⟨n, 1, none⟩ (.int .i64 y.thresh)).setCell ⟨n, 2, none⟩ (.int .i64 y.whole)).setCell ⟨n, 3, none⟩ (.int .i64 y.del)).setCell ⟨n, 4, none⟩ (.int .i64 y.out)).setCell ⟨n, 5, none⟩ (.int .i64 y.left)).setCell ⟨n, 6, none⟩ (.bool y.first)
theorem setp {w : World} {b i : Nat} {z z' : Pr} (h : w.heap[b]? = some (prO z)) (u : Value) (hz : (cellsP z).setIfInBounds i u = cellsP z') : (w.setCell ⟨b, i, none⟩ u).heap[b]? = some (prO z') := by
  have this : (w.setCell ⟨b, i, none⟩ u).heap[b]? = _ := heap_setCell_same _ _ i _ _ u h
  rw [hz] at this
  exact this
theorem putA_at {n : Nat} {z : Pr} {W : World} (h : W.heap[n]? = some (prO z)) (y : Pr) : (putA n y W).heap[n]? = some (prO y) := by
  unfold putA
  have g0 : (W.setCell ⟨n, 0, none⟩ (.int .i64 y.mss)).heap[n]? = some (prO ⟨y.mss, z.thresh, z.whole, z.del, z.out, z.left, z.first⟩) := setp h _ rfl
  generalize W.setCell ⟨n, 0, none⟩ (.int .i64 y.mss) = W0 at *
  have g1 : (W0.setCell ⟨n, 1, none⟩ (.int .i64 y.thresh)).heap[n]? = some (prO ⟨y.mss, y.thresh, z.whole, z.del, z.out, z.left, z.first⟩) := setp g0 _ rfl
  generalize W0.setCell ⟨n, 1, none⟩ (.int .i64 y.thresh) = W1 at *
  have g2 : (W1.setCell ⟨n, 2, none⟩ (.int .i64 y.whole)).heap[n]? = some (prO ⟨y.mss, y.thresh, y.whole, z.del, z.out, z.left, z.first⟩) := setp g1 _ rfl
  generalize W1.setCell ⟨n, 2, none⟩ (.int .i64 y.whole) = W2 at *
  have g3 : (W2.setCell ⟨n, 3, none⟩ (.int .i64 y.del)).heap[n]? = some (prO ⟨y.mss, y.thresh, y.whole, y.del, z.out, z.left, z.first⟩) := setp g2 _ rfl
  generalize W2.setCell ⟨n, 3, none⟩ (.int .i64 y.del) = W3 at *
  have g4 : (W3.setCell ⟨n, 4, none⟩ (.int .i64 y.out)).heap[n]? = some (prO ⟨y.mss, y.thresh, y.whole, y.del, y.out, z.left, z.first⟩) := setp g3 _ rfl
  generalize W3.setCell ⟨n, 4, none⟩ (.int .i64 y.out) = W4 at *
  have g5 : (W4.setCell ⟨n, 5, none⟩ (.int .i64 y.left)).heap[n]? = some (prO ⟨y.mss, y.thresh, y.whole, y.del, y.out, y.left, z.first⟩) := setp g4 _ rfl
  generalize W4.setCell ⟨n, 5, none⟩ (.int .i64 y.left) = W5 at *
  exact setp g5 _ rfl
theorem putA_kept (n : Nat) (y : Pr) (W : World) : Kept [n] W (putA n y W) :=
  (((((((Kept.refl [n] W).setCell (.inl (by simp)) _).setCell (.inl (by simp)) _).setCell (.inl (by simp)) _).setCell (.inl (by simp)) _).setCell (.inl (by simp)) _).setCell (.inl (by simp)) _).setCell (.inl (by simp)) _
/-- the boxes of a call of the reference's -/
structure RB (w : World) (y : Pr) (W : World) : Prop where
  b0 : W.heap[w.heap.size]? = some (prO y)
  rs : W.heap[w.heap.size + 1]? = some (prO zero)
  below : Below w.heap.size w W
theorem rb_new (w : World) (y : Pr) : RB w y ((w.alloc (prO y)).alloc (prO zero)) := by
  have b1 := al w (prO y)
  have y1 := heap_alloc_new w (prO y)
  have z1 : (w.alloc (prO y)).heap.size = w.heap.size + 1 := by simp
  generalize w.alloc (prO y) = w1 at *
  have b2 := al w1 (prO zero)
  have y2 := heap_alloc_new w1 (prO zero)
  rw [z1] at y2
  exact ⟨(b2.block _ (lt_of_block y1)).trans y1, y2, b1.trans (b2.mono b1.size)⟩
theorem RB.later {w W W' : World} {y : Pr} (h : RB w y W) (hb : Below W.heap.size W W') : RB w y W' := ⟨(hb.block _ (lt_of_block h.b0)).trans h.b0, (hb.block _ (lt_of_block h.rs)).trans h.rs, h.below.trans (hb.mono h.below.size)⟩
theorem RB.drew {w W : World} {y : Pr} (h : RB w y W) : RB w y W.drew := ⟨h.b0, h.rs, h.below.drew⟩
theorem RB.put {w W : World} {y y' : Pr} (h : RB w y W) (i : Nat) (u : Value) (hy : (cellsP y).setIfInBounds i u = cellsP y') : RB w y' (W.setCell ⟨w.heap.size, i, none⟩ u) := by
  have hk := kset W w.heap.size i u
  have hh : (W.setCell ⟨w.heap.size, i, none⟩ u).heap[w.heap.size]? = _ := heap_setCell_same _ _ i _ _ u h.b0
  rw [hy] at hh
  exact ⟨hh, hk.heap (by simp) h.rs, h.below.trans (hk.below (by simp) h.below.size)⟩
abbrev St (b : Nat) (y : Pr) (w : World) : Prop := w.cell? ⟨b, 0, none⟩ = some (.int .i64 y.mss) ∧ w.cell? ⟨b, 1, none⟩ = some (.int .i64 y.thresh) ∧ w.cell? ⟨b, 2, none⟩ = some (.int .i64 y.whole) ∧ w.cell? ⟨b, 3, none⟩ = some (.int .i64 y.del) ∧ w.cell? ⟨b, 4, none⟩ = some (.int .i64 y.out) ∧ w.cell? ⟨b, 5, none⟩ = some (.int .i64 y.left) ∧ w.cell? ⟨b, 6, none⟩ = some (.bool y.first)
theorem st_of {w : World} {b : Nat} {y : Pr} (h : w.heap[b]? = some (prO y)) : St b y w := ⟨cofr h 0 _ rfl, cofr h 1 _ rfl, cofr h 2 _ rfl, cofr h 3 _ rfl, cofr h 4 _ rfl, cofr h 5 _ rfl, cofr h 6 _ rfl⟩
set_option maxRecDepth 100000 in
set_option maxHeartbeats 4000000 in
theorem rack_any {w : World} {x : Pr} (ho : Ok x) (d pipe : Int) (hp : -9223372036854775808 ≤ pipe ∧ pipe ≤ 9223372036854775807) : Calls Try.prog 22 #[prV x, .int .i64 d, .int .i64 pipe] w (RetR (ack x d pipe) w) := by
  have hcb := cm_bd d
  have d0 := ho.d0; have d1 := ho.d1
  have HO2 := Lib.hid (ho.ackD d)
  have HAD : Hid (ackD x d = ⟨x.mss, x.thresh, x.whole, min (x.del + cm d) 1099511627776, x.out, x.left, x.first⟩) := Lib.hid rfl
  have HAE : Hid (ack x d pipe = putL (ackD x d) (max (room (ackD x d) (cm d) pipe) 0)) := Lib.hid rfl
  rw [HAE.out]
  have HRB := Lib.hid (room_bd (ho.ackD d) hcb pipe)
  have HCL := Lib.hid (fun h => cm_lo (d := d) h)
  have HCM := Lib.hid (fun h h' => cm_mid (d := d) h h')
  have HCH := Lib.hid (fun h => cm_hi (d := d) h)
  obtain ⟨mss, thresh, whole, del, out, left, first⟩ := x
  dsimp only at *
  clear HAE ho
  generalize hy : ackD ⟨mss, thresh, whole, del, out, left, first⟩ d = y at *
  clear hy
  generalize cm d = c at *
  go_enter Try.func22, Try.ntmps22
  go_upto_region 1 with fail
  go_cut [7] (fun s7 wx => s7 = .int .i64 c ∧ Hid (RB w ⟨mss, thresh, whole, del, out, left, first⟩ wx))
  case first =>
    by_cases h1 : d < 0
    · have e := Lib.hid (HCL.out h1)
      clear HCL HCM HCH
      go_wp2_with fail
      go_meet
      exact ⟨by rw [e.out], Lib.hid (rb_new _ _)⟩
    · by_cases h2 : d ≤ 1048576
      · have e := Lib.hid (HCM.out (by omega) h2)
        clear HCL HCM HCH
        go_wp2_with fail
        go_meet
        exact ⟨by rw [e.out], Lib.hid (rb_new _ _)⟩
      · have h3 : 1048576 < d := by omega
        have e := Lib.hid (HCH.out h3)
        clear HCL HCM HCH
        go_wp2_with fail
        go_meet
        exact ⟨by rw [e.out], Lib.hid (rb_new _ _)⟩
  case rest =>
    obtain ⟨rfl, HW⟩ := hcut
    clear HCL HCM HCH
    generalize wc = W at *
    obtain ⟨c0, c1, c2, c3, c4, c5, c6⟩ := st_of HW.out.b0
    have f3 := fofr HW.out.b0 3
    dsimp only at c0 c1 c2 c3 c4 c5 c6
    have HWM := Lib.hid (show (if 1099511627776 < del + c then (1099511627776 : Int) else del + c) = min (del + c) 1099511627776 from by split <;> omega)
    go_upto_region 2 with fail
    go_cut [16] (fun _ wx => Hid (RB w y wx))
    case first =>
      have HF := Lib.hid (HW.out.put (y' := y) 3 (.int .i64 (min (del + c) 1099511627776)) (by rw [HAD.out]; rfl))
      by_cases h1 : 1099511627776 < del + c
      · have e : min (del + c) 1099511627776 = 1099511627776 := by omega
        rw [e] at HF
        clear e
        go_wp2_with fail
        go_meet
        exact HF
      · have e : min (del + c) 1099511627776 = del + c := by omega
        have h2 : del + c ≤ 1099511627776 := by omega
        rw [e] at HF
        clear e
        go_wp2_with fail
        go_meet
        exact HF
    case rest =>
      have HY := hcut
      clear hcut HW c0 c1 c2 c3 c4 c5 c6 f3 HWM HAD
      generalize wc = V at *
      obtain ⟨c0, c1, c2, c3, c4, c5, c6⟩ := st_of HY.out.b0
      have m0 := HO2.out.m0; have m1 := HO2.out.m1; have t0 := HO2.out.t0; have t1 := HO2.out.t1; have w1 := HO2.out.w1; have dd0 := HO2.out.d0; have dd1 := HO2.out.d1; have o0 := HO2.out.o0; have ol := HO2.out.ol; have l0 := HO2.out.l0
      obtain ⟨hp0, hp1⟩ := hp
      obtain ⟨hc0, hc1⟩ := hcb
      go_upto_if 21 with fail
      go_cut [8] (fun s8 wx => s8 = .int .i64 (room y c pipe) ∧ Hid (RB w y wx))
      case first =>
        by_cases hr : y.thresh < pipe
        · have HR : Hid (room y c pipe = sh y - y.out) := Lib.hid (if_pos hr)
          have hs := sh_bd HO2.out
          have HSH := Lib.hid (fun W => rshare_any (w := W) HO2.out)
          have hws := IntWalk.i64_in (sh y - y.out) (by omega)
          have HWS := Lib.hid hws
          clear hws
          generalize sh y = q at *
          go_wp2_with fail
          go_region_held3 (fun w' => St w.heap.size y w') (first | with_reducible exact st_of HZ.out.b0 | with_reducible exact st_of HY.out.drew.b0 | go_keep)
            ((go_at_call 26; (with_reducible refine (HSH.out _).mono ?_); rintro e w5 ⟨rfl, q1⟩; have HZ := Lib.hid (HY.out.drew.later q1); clear q1))
          rw [HWS.out]
          go_wp2_with fail
          go_meet
          exact ⟨ret_v HR.out.symm, HZ⟩
        · have HR : Hid (room y c pipe = min (y.thresh - max pipe 0) (max (y.del - y.out) c + y.mss)) := Lib.hid (if_neg hr)
          go_wp2_with fail
          all_goals
            go_meet
            exact ⟨ret_v (by rw [HR.out]; omega), HY⟩
      case rest =>
        obtain ⟨rfl, HZ⟩ := hcut
        clear HY c0 c1 c2 c3 c4 c5 c6 m0 m1 t0 t1 w1 dd0 dd1 o0 ol l0
        obtain ⟨r0, r1, r2⟩ := HRB.out
        generalize room y c pipe = r at *
        clear HRB
        have HT : Hid (RB w (putL y (max r 0)) (wc.setCell ⟨w.heap.size, 5, none⟩ (.int .i64 (max r 0)))) := Lib.hid (HZ.out.put 5 _ rfl)
        obtain ⟨c0, c1, c2, c3, c4, c5, c6⟩ := st_of HZ.out.b0
        have f5 := fofr HZ.out.b0 5
        clear HZ
        generalize wc = U at *
        go_upto_region 7 with fail
        go_cut [43] (fun _ wx => Hid (RB w (putL y (max r 0)) wx))
        case first =>
          by_cases h1 : r < 0
          · have e : max r 0 = 0 := by omega
            rw [e] at HT
            clear e
            have HE := Lib.hid (show max r 0 = 0 by omega)
            go_wp2_with fail
            go_meet
            rw [HE.out]
            exact HT
          · have h2 : 0 ≤ r := by omega
            have e : max r 0 = r := by omega
            rw [e] at HT
            clear e
            have HE := Lib.hid (show max r 0 = r by omega)
            go_wp2_with fail
            go_meet
            rw [HE.out]
            exact HT
        case rest =>
          have HU := hcut
          clear hcut HT c0 c1 c2 c3 c4 c5 c6 f5
          generalize wc = V2 at *
          generalize putL y (max r 0) = z at *
          obtain ⟨c0, c1, c2, c3, c4, c5, c6⟩ := st_of HU.out.b0
          obtain ⟨e0, e1, e2, e3, e4, e5, e6⟩ := st_of HU.out.rs
          have f0 := fofr HU.out.rs 0; have f1 := fofr HU.out.rs 1; have f2 := fofr HU.out.rs 2; have f3 := fofr HU.out.rs 3; have f4 := fofr HU.out.rs 4; have f5 := fofr HU.out.rs 5; have f6 := fofr HU.out.rs 6
          have HE := Lib.hid (putA_at HU.out.rs z)
          have HB := Lib.hid (HU.out.below.trans ((putA_kept (w.heap.size + 1) z V2).below (by simp) HU.out.below.size))
          go_wp2_with fail
          obtain ⟨y0, y1, y2, y3, y4, y5, y6⟩ := st_of HE.out
          exact bodyPost_ret (v := prV z) (by simp [results, Try.results22, go_sem, y0, y1, y2, y3, y4, y5, y6]) rfl ⟨rfl, HB.out⟩
end Go.Proofs.Ytlalcekfjbiecaa.pr
