/-
  SpanCuts.
-/
import Derived.Test.YtdadcbelbkhgoaaSpnL
namespace Go.Proofs.Ytdadcbelbkhgoaa.sp
open Go.RowKit Go.Shelf aid mem rng
attribute [local go_sem] Oper.semAt_some
set_option linter.unusedVariables false
set_option linter.unusedSimpArgs false

theorem cuts_none {s : Int × Int} {z : Int} (h : z < 1) : cutsL s z = [] := by
  unfold cutsL endsL
  rw [if_pos h]
  rfl
set_option maxRecDepth 100000 in
set_option maxHeartbeats 8000000 in
theorem walk_SpanCuts (w : World) (s : Int × Int) (z : Int) (hz : -9223372036854775808 ≤ z ∧ z ≤ 9223372036854775807) (most : Int) (hmost : -9223372036854775808 ≤ most ∧ most ≤ 9223372036854775807) :
    Calls Try.prog 9 #[spV s, .int .i64 z, .int .i64 most] w fun e w' => e = .returned (.bool true) ∧ Below w.heap.size w w' := by
  have HO := Lib.hid (rof_any s)
  have HLX := Lib.hid (rlen_any (ofP s))
  have hxl := lenI_bd (ofP s)
  obtain ⟨z0, z1⟩ := hz
  obtain ⟨m0, m1⟩ := hmost
  obtain ⟨l0, l1⟩ := hxl
  refine (callsIn_wide (n := 6)).1 ?_
  refine callsIn_of_wp_marks Try.func9 rfl trivial ?_ rfl
  simp only [Try.ntmps9, List.size_toArray, List.length_cons, List.length_nil, Nat.reduceAdd, Nat.reduceSub, Array.replicate_succ, Array.replicate_zero, List.push_toArray, List.append_toArray, List.nil_append, List.cons_append]
  have K0 := b4_new w s z most
  gi_wp2
  refine ⟨trivial, ?_⟩
  refine (callsIn_wide.2 (known_any _)).mono ?_
  rintro e w1 ⟨rfl, h1⟩
  have K1 := K0.later h1
  have hsz1 := h1.size
  clear K0 h1
  have c0 := K1.s.c0; have c1 := K1.s.c1
  gi_wp2
  refine ⟨trivial, ?_⟩
  refine (callsIn_wide.2 (HO.out _)).mono ?_
  rintro e w2 ⟨rfl, h2⟩
  have HP := Lib.hid (fun pre y => @cut_piece s z pre y)
  have HBRX : Hid (w.heap.size + 1 + 1 + 1 < w2.heap.size) := Lib.hid (Nat.lt_of_lt_of_le K1.size h2.size)
  have HCLST := Lib.hid (@cut_last s z)
  generalize ofP s = x at *
  have b3 := bal (w := w2) (.cells #[.int .i64 x.1, .int .i64 x.2] 24)
  have K3 := (K1.later h2).later b3
  have x3 := sp_new w2 x
  have hsz2 := h2.size
  have hbx : w2.heap.size < (w2.alloc (.cells #[.int .i64 x.1, .int .i64 x.2] 24)).heap.size := x3.lt
  clear K1 h2 b3 c0 c1
  have c0 := x3.c0; have c1 := x3.c1
  have cz := K3.cz
  have hfn : ∀ f, Fence.wide.fn f := fun _ => trivial
  have hmo : Try.prog.follows .mixedOrders = true := by kernel_rfl
  gi_wp2
  by_cases hz0 : 0 < z
  · refine Code.wpIn_mono NoPanic.imp ?_
    generalize w2.alloc (.cells #[.int .i64 x.1, .int .i64 x.2] 24) = W3 at *
    have d0 : W3.drew.cell? ⟨w2.heap.size, 0, none⟩ = some (.int .i64 x.1) := c0
    have d1 : W3.drew.cell? ⟨w2.heap.size, 1, none⟩ = some (.int .i64 x.2) := c1
    have dz : W3.drew.cell? ⟨w.heap.size + 1, 0, none⟩ = some (.int .i64 z) := cz
    gi_region_with_o (gi_at_call 21; refine (callsIn_wide.2 (HLX.out _)).mono ?_; rintro e w5 ⟨rfl, h5⟩; have dz5 := ckc (w := W3.drew) h5 dz)
    all_goals
      simp only [NoPanic]
      have K5 := K3.later (W' := w5) (show Below W3.heap.size W3 w5 from ⟨h5.os, h5.tape, h5.output, h5.size, h5.block⟩)
      by_cases hbig : 500 < lenI x / z
      · gi_wp2
        refine (callsIn_wide.2 (known_any _)).mono ?_
        rintro e w6 ⟨rfl, h6⟩
        have K6 := K5.later h6
        have cr := (cell_of_row w6 _ 0 _ _ (0, 0) K6.r).trans rfl
        have fr : w6.frozen? ⟨w.heap.size + 1 + 1 + 1, 0, none⟩ = false := by simp [World.frozen?, K6.r]
        have hr7 := (heap_setCell_same w6 (w.heap.size + 1 + 1 + 1) 0 _ _ (.bool true) K6.r).trans rfl
        have cr7 := (cell_of_row _ (w.heap.size + 1 + 1 + 1) 0 _ _ (0, 0) hr7).trans rfl
        have b7 := K6.below.setCell (p := ⟨w.heap.size + 1 + 1 + 1, 0, none⟩) (by simp only; omega) (.bool true)
        gi_wp2
        exact ⟨.bool true, by simp [results, Try.results9, go_sem, cr7], rfl, b7⟩
      · have x5 : SpAt w5 w2.heap.size x := SpAt.later (w := W3) x3 ⟨h5.os, h5.tape, h5.output, h5.size, h5.block⟩
        have e0 := x5.c0; have e1 := x5.c1
        have g0 := K5.s.c0; have g1 := K5.s.c1; have g2 := K5.cz
        have n0 := K5.s.lt
        have n1 := lt_of_block K5.z
        have n2 := x5.lt
        have f1 := bal (w := w5) (.cells #[.int .i64 0] 3)
        have f2 := bal (w := w5.alloc (.cells #[.int .i64 0] 3)) (.cells #[.int .i64 x.1] 3)
        have f3 := bal (w := (w5.alloc (.cells #[.int .i64 0] 3)).alloc (.cells #[.int .i64 x.1] 3)) (.cells #[.bool true] 4)
        have K6 := ((K5.later f1).later f2).later f3
        have x6 := ((x5.later f1).later f2).later f3
        have nb6 := (f3.block _ (by simp; omega)).trans ((f2.block _ (by simp)).trans (heap_alloc_new w5 (.cells #[.int .i64 0] 3)))
        have ab6 := (f3.block _ (by simp)).trans (heap_alloc_new (w5.alloc (.cells #[.int .i64 0] 3)) (.cells #[.int .i64 x.1] 3))
        have fb6 := heap_alloc_new ((w5.alloc (.cells #[.int .i64 0] 3)).alloc (.cells #[.int .i64 x.1] 3)) (.cells #[.bool true] 4)
        have hsz6 : (((w5.alloc (.cells #[.int .i64 0] 3)).alloc (.cells #[.int .i64 x.1] 3)).alloc (.cells #[.bool true] 4)).heap.size = w5.heap.size + 1 + 1 + 1 := by simp
        simp only [World.size_alloc] at ab6 fb6
        have j0 := K6.s.c0; have j1 := K6.s.c1; have j2 := K6.cz
        clear d0 d1 dz dz5 K3 h5 c0 c1 cz x3 hbx f1 f2 f3
        gi_wp2
        generalize ((w5.alloc (.cells #[.int .i64 0] 3)).alloc (.cells #[.int .i64 x.1] 3)).alloc (.cells #[.bool true] 4) = W6 at *
        have hsK := K5.size
        have hs12 : w.heap.size + 1 + 1 + 1 < w2.heap.size := HBRX.out
        refine (callsIn_wide.2 (cut_any s z W6 (fun k => k = w.heap.size + 1 + 1 + 1 ∨ k = w5.heap.size ∨ k = w5.heap.size + 1 ∨ k = w5.heap.size + 1 + 1) (by rintro k (rfl | rfl | rfl | rfl) <;> omega))).mono ?_
        rintro e w9 ⟨lb, rfl, hseq, h9⟩
        have hs9 := h9.size
        have hCD : CD w w9.heap.size (w.heap.size + 1 + 1 + 1) (w.heap.size + 1) (w.heap.size + 1 + 1) w2.heap.size w5.heap.size (w5.heap.size + 1) (w5.heap.size + 1 + 1) := ⟨by omega⟩
        have K9 := K6.later h9
        have hCI : CI w (w.heap.size + 1 + 1 + 1) (w.heap.size + 1) (w.heap.size + 1 + 1) w2.heap.size w5.heap.size (w5.heap.size + 1) (w5.heap.size + 1 + 1) z most x [] (fun k => k = w.heap.size + 1 + 1 + 1 ∨ k = w5.heap.size ∨ k = w5.heap.size + 1 ∨ k = w5.heap.size + 1 + 1) w9 :=
          ⟨K9.r, K9.z, K9.m, x6.later h9, (h9.block _ (lt_of_block nb6)).trans nb6, (h9.block _ (lt_of_block ab6)).trans ab6, (h9.block _ (lt_of_block fb6)).trans fb6, ⟨.inl rfl, .inr (.inl rfl), .inr (.inr (.inl rfl)), .inr (.inr (.inr rfl))⟩, K9.below⟩
        have HSEQ := Lib.hid hseq
        have HCI := Lib.hid hCI
        have HCD := Lib.hid hCD
        clear hseq hCI hCD K9 K6 x6 nb6 ab6 fb6 j0 j1 j2 e0 e1 g0 g1 g2 h9 K5 x5
        generalize w.heap.size + 1 + 1 + 1 = br at *
        generalize w.heap.size + 1 + 1 = bm at *
        generalize w.heap.size + 1 = bz at *
        generalize w5.heap.size + 1 + 1 = bf at *
        generalize w5.heap.size + 1 = ba at *
        generalize w5.heap.size = bn at *
        generalize w2.heap.size = bx at *
        gi_wp2
        have hlen := cuts_len s z
        have HLEN := Lib.hid hlen
        clear hlen
        refine wpIn_rangeB (fun (b : Nat) (y : Int × Int) (t : Array Value) => (t.setIfInBounds 31 (spV y)).setIfInBounds 11 (.pointer (some ⟨b, 0, none⟩))) (gf := 63) (lb := lb) (L := cutsL s z) (A := fun k => k = br ∨ k = bn ∨ k = ba ∨ k = bf) (w0 := w9) (encs := spE) rfl eg_cut HSEQ.out (Below.refl _ _) (fun _ => rfl)
          (CI w br bz bm bx bn ba bf z most x) (CX w br) (fun k => k = br ∨ k = bn ∨ k = ba ∨ k = bf) ?hc0 (ci_bears HCD.out) (cx_bears HCD.out) HCI.out (PB w9.heap.size) (pb_bears w9.heap.size) ?assign ?body ?done ?stop
        case hc0 =>
          have o := HCD.out.ord
          rintro k (rfl | rfl | rfl | rfl)
          · exact ⟨.inl (.inl rfl), by omega⟩
          · exact ⟨.inl (.inr (.inl rfl)), by omega⟩
          · exact ⟨.inl (.inr (.inr (.inl rfl))), by omega⟩
          · exact ⟨.inl (.inr (.inr (.inr rfl))), by omega⟩
        case assign =>
          intro l' pre y C X K hI hp hc hz hK
          have b1 := bal (w := X) (.cells #[.int .i64 y.1, .int .i64 y.2] 24)
          have HK := Lib.hid (hK X.heap.size (fun k => C k ∨ k = X.heap.size) _ ⟨Steps.of_below b1 _, fun k hk => by rcases hk with hk | rfl; exact .inl hk; exact .inr ⟨Nat.le_refl _, by simp⟩⟩ (ci_more (ci_bears HCD.out _ _ _ _ hI hz (Steps.of_below b1 _)) (fun k hk => .inl hk)) ⟨sp_new X y, hz, .inr rfl⟩)
          clear hK hI hp hc b1
          gi_wp2
          exact HK.out
        case body =>
          rintro l' pre y b C X hI ⟨hyb, hbn0, hCb⟩ hp hcb hz
          obtain ⟨hz1, ⟨p1, p2, p3, p4, p5⟩, hok⟩ := HP.out pre y hp
          have hll := hp.length_le
          rw [List.length_append, List.length_singleton] at hll
          have hln : (pre.length : Int) + 1 ≤ 4611686018427387904 := by have := HLEN.out; omega
          have hlf := len_fit hok
          have q2 : 0 < lenI y := by omega
          have q5 : lenI y ≤ z := by omega
          have q4 : ¬ y.2 = x.2 → lenI y = z := fun h => by rcases p4 with p4 | p4; exact absurd p4 h; omega
          clear hok hz1 HP HLEN HCLST HCI HSEQ
          simp only [List.setIfInBounds_toArray, List.set_cons_zero, List.set_cons_succ]
          by_cases hend : y.2 = x.2
          · exact cut_body1 (n0 := w9.heap.size) l' HCD.out hI hyb hbn0 p1 q2 p3 hend q5 hln _ _ _ _ _ _ _ _ _ _ _ _ _ _ _ _ _ _ _ _ _ _ _ _ _ _ _ _ _ _ _ _ _ _ _ _ _ _ _ _ _ _ _ _ _ _ _ _ _ _ _ _ _ _ _ _ _ _ _ _ _ _ _ _ _ _ _ _ _ _ _ _ _ _ _ _ _ _ _ _ _ _ _ _ _ _ _ _ _ _ _
          · exact cut_body2 (n0 := w9.heap.size) l' HCD.out hI hyb hbn0 p1 q2 p3 ⟨hend, q4 hend⟩ q5 hln _ _ _ _ _ _ _ _ _ _ _ _ _ _ _ _ _ _ _ _ _ _ _ _ _ _ _ _ _ _ _ _ _ _ _ _ _ _ _ _ _ _ _ _ _ _ _ _ _ _ _ _ _ _ _ _ _ _ _ _ _ _ _ _ _ _ _ _ _ _ _ _ _ _ _ _ _ _ _ _ _ _ _ _ _ _ _ _ _ _ _
        case done =>
          rintro D C X hD hCD hI hK
          have o := HCD.out.ord
          have hla := HCLST.out (by omega)
          have hha := hI.ha
          rw [hla] at hha
          have qa := (cell_of_row X ba 0 _ _ (0, 0) hha).trans rfl
          have qx0 := hI.hx.c0; have qx1 := hI.hx.c1
          have qz := (cell_of_row X bz 0 _ _ (0, 0) hI.hz).trans rfl
          have tq : (x.2 == x.2) = true := by simp
          have td : decide (x.2 = x.2) = true := by simp
          have HRB := Lib.hid hI.hr
          have HBL := Lib.hid hI.below
          have HK := Lib.hid hK
          have hDb : br < D := by omega
          have hlr : w.heap.size ≤ br := by omega
          clear hla hha hI hK HSEQ HCI HLEN HP HCLST
          gi_wp2
          refine (callsIn_wide.2 (known_any _)).mono ?_
          rintro e w12 ⟨rfl, hB12⟩
          have r12 := (hB12.block br (lt_of_block HRB.out)).trans HRB.out
          have c12 := (cell_of_row w12 br 0 _ _ (0, 0) r12).trans rfl
          have f12 : w12.frozen? ⟨br, 0, none⟩ = false := by simp [World.frozen?, r12]
          have hk12 : (w12.setCell ⟨br, 0, none⟩ (.bool true)).heap[D]? = some (.deferred (some [])) := (Below.heap_setCell w12 ⟨br, 0, none⟩ _ D (by simp; omega)).trans ((hB12.block D (lt_of_block HK.out)).trans HK.out)
          have hr12 : (w12.setCell ⟨br, 0, none⟩ (.bool true)).heap[br]? = some (.cells #[.bool true] 4 (0, 0)) := (heap_setCell_same w12 br 0 _ _ _ r12).trans rfl
          have hr13 : ((w12.setCell ⟨br, 0, none⟩ (.bool true)).putObj D (.deferred none)).heap[br]? = some (.cells #[.bool true] 4 (0, 0)) := (World.putObj_heap_other (by omega)).trans hr12
          have cr13 := (cell_of_row _ br 0 _ _ (0, 0) hr13).trans rfl
          have b12 := HBL.out.trans (hB12.mono HBL.out.size)
          have b13 := b12.trans (((Kept.refl [br] w12).setCell (p := ⟨br, 0, none⟩) (.inl (by simp)) (.bool true)).below (B := w.heap.size) (by simpa using hlr) b12.size)
          have b14 := b13.trans ((rng.Steps.putObj (fun q => q < w.heap.size) (w12.setCell ⟨br, 0, none⟩ (.bool true)) D (.deferred none) (by omega)).below (n := w.heap.size) b13.size (fun _ h => h))
          have HB14 := Lib.hid b14
          clear b12 b13 b14 hr12 r12 hB12 hr13
          gi_wp2
          refine ⟨by simp, .inl ⟨_, _, rfl, run_takeDeferred hk12, ?_⟩⟩
          exact ⟨.bool true, by simp [results, Try.results9, go_sem, cr13], rfl, HB14.out⟩
        case stop =>
          rintro D c pre C X hD hCD ⟨rfl, h2, h3⟩ hK
          have o := HCD.out.ord
          have hDb : br < D := by omega
          have hr13 : (X.putObj D (.deferred none)).heap[br]? = some (.cells #[.bool true] 4 (0, 0)) := (World.putObj_heap_other (by omega)).trans h2
          have cr13 := (cell_of_row _ br 0 _ _ (0, 0) hr13).trans rfl
          have b14 := h3.trans ((rng.Steps.putObj (fun q => q < w.heap.size) X D (.deferred none) (by omega)).below (n := w.heap.size) h3.size (fun _ h => h))
          have HK := Lib.hid hK
          have HB14 := Lib.hid b14
          clear h2 h3 hK b14 HSEQ HCI HLEN HP HCLST hr13
          gi_wp2
          refine ⟨by simp, .inl ⟨_, _, rfl, run_takeDeferred HK.out, ?_⟩⟩
          exact ⟨.bool true, by simp [results, Try.results9, go_sem, cr13], rfl, HB14.out⟩
  · refine Code.wpIn_mono NoPanic.imp ?_
    generalize w2.alloc (.cells #[.int .i64 x.1, .int .i64 x.2] 24) = W3 at *
    have d0 : W3.drew.cell? ⟨w2.heap.size, 0, none⟩ = some (.int .i64 x.1) := c0
    have d1 : W3.drew.cell? ⟨w2.heap.size, 1, none⟩ = some (.int .i64 x.2) := c1
    have dz : W3.drew.cell? ⟨w.heap.size + 1, 0, none⟩ = some (.int .i64 z) := cz
    have dg : decide (0 < z) = false := by simpa using hz0
    obtain ⟨w5, hw5⟩ : ∃ w5, w5 = W3.drew := ⟨_, rfl⟩
    have h5 : Below W3.heap.size W3 w5 := by rw [hw5]; exact (Below.refl _ W3).drew
    have K5 := K3.later h5
    have x5 : SpAt w5 w2.heap.size x := SpAt.later (w := W3) x3 h5
    gi_region_with_o (fail)
    all_goals
      simp only [NoPanic]
      rw [← hw5]
      clear hw5
      have dz5 := dz
      have e0 := x5.c0; have e1 := x5.c1
      have g0 := K5.s.c0; have g1 := K5.s.c1; have g2 := K5.cz
      have n0 := K5.s.lt
      have n1 := lt_of_block K5.z
      have n2 := x5.lt
      have f1 := bal (w := w5) (.cells #[.int .i64 0] 3)
      have f2 := bal (w := w5.alloc (.cells #[.int .i64 0] 3)) (.cells #[.int .i64 x.1] 3)
      have f3 := bal (w := (w5.alloc (.cells #[.int .i64 0] 3)).alloc (.cells #[.int .i64 x.1] 3)) (.cells #[.bool true] 4)
      have K6 := ((K5.later f1).later f2).later f3
      have x6 := ((x5.later f1).later f2).later f3
      have nb6 := (f3.block _ (by simp; omega)).trans ((f2.block _ (by simp)).trans (heap_alloc_new w5 (.cells #[.int .i64 0] 3)))
      have ab6 := (f3.block _ (by simp)).trans (heap_alloc_new (w5.alloc (.cells #[.int .i64 0] 3)) (.cells #[.int .i64 x.1] 3))
      have fb6 := heap_alloc_new ((w5.alloc (.cells #[.int .i64 0] 3)).alloc (.cells #[.int .i64 x.1] 3)) (.cells #[.bool true] 4)
      have hsz6 : (((w5.alloc (.cells #[.int .i64 0] 3)).alloc (.cells #[.int .i64 x.1] 3)).alloc (.cells #[.bool true] 4)).heap.size = w5.heap.size + 1 + 1 + 1 := by simp
      simp only [World.size_alloc] at ab6 fb6
      have j0 := K6.s.c0; have j1 := K6.s.c1; have j2 := K6.cz
      clear d0 d1 dz dz5 K3 h5 c0 c1 cz x3 hbx f1 f2 f3
      gi_wp2
      generalize ((w5.alloc (.cells #[.int .i64 0] 3)).alloc (.cells #[.int .i64 x.1] 3)).alloc (.cells #[.bool true] 4) = W6 at *
      have hsK := K5.size
      have hs12 : w.heap.size + 1 + 1 + 1 < w2.heap.size := HBRX.out
      refine (callsIn_wide.2 (cut_any s z W6 (fun k => k = w.heap.size + 1 + 1 + 1 ∨ k = w5.heap.size ∨ k = w5.heap.size + 1 ∨ k = w5.heap.size + 1 + 1) (by rintro k (rfl | rfl | rfl | rfl) <;> omega))).mono ?_
      rintro e w9 ⟨lb, rfl, hseq, h9⟩
      have hs9 := h9.size
      have hCD : CD w w9.heap.size (w.heap.size + 1 + 1 + 1) (w.heap.size + 1) (w.heap.size + 1 + 1) w2.heap.size w5.heap.size (w5.heap.size + 1) (w5.heap.size + 1 + 1) := ⟨by omega⟩
      have K9 := K6.later h9
      have hCI : CI w (w.heap.size + 1 + 1 + 1) (w.heap.size + 1) (w.heap.size + 1 + 1) w2.heap.size w5.heap.size (w5.heap.size + 1) (w5.heap.size + 1 + 1) z most x [] (fun k => k = w.heap.size + 1 + 1 + 1 ∨ k = w5.heap.size ∨ k = w5.heap.size + 1 ∨ k = w5.heap.size + 1 + 1) w9 :=
        ⟨K9.r, K9.z, K9.m, x6.later h9, (h9.block _ (lt_of_block nb6)).trans nb6, (h9.block _ (lt_of_block ab6)).trans ab6, (h9.block _ (lt_of_block fb6)).trans fb6, ⟨.inl rfl, .inr (.inl rfl), .inr (.inr (.inl rfl)), .inr (.inr (.inr rfl))⟩, K9.below⟩
      have HSEQ := Lib.hid hseq
      have HCI := Lib.hid hCI
      have HCD := Lib.hid hCD
      clear hseq hCI hCD K9 K6 x6 nb6 ab6 fb6 j0 j1 j2 e0 e1 g0 g1 g2 h9 K5 x5
      generalize w.heap.size + 1 + 1 + 1 = br at *
      generalize w.heap.size + 1 + 1 = bm at *
      generalize w.heap.size + 1 = bz at *
      generalize w5.heap.size + 1 + 1 = bf at *
      generalize w5.heap.size + 1 = ba at *
      generalize w5.heap.size = bn at *
      generalize w2.heap.size = bx at *
      gi_wp2
      have hlen := cuts_len s z
      have HLEN := Lib.hid hlen
      clear hlen
      refine wpIn_rangeB (fun (b : Nat) (y : Int × Int) (t : Array Value) => (t.setIfInBounds 31 (spV y)).setIfInBounds 11 (.pointer (some ⟨b, 0, none⟩))) (gf := 63) (lb := lb) (L := cutsL s z) (A := fun k => k = br ∨ k = bn ∨ k = ba ∨ k = bf) (w0 := w9) (encs := spE) rfl eg_cut HSEQ.out (Below.refl _ _) (fun _ => rfl)
        (CI w br bz bm bx bn ba bf z most x) (CX w br) (fun k => k = br ∨ k = bn ∨ k = ba ∨ k = bf) ?hc0 (ci_bears HCD.out) (cx_bears HCD.out) HCI.out (PB w9.heap.size) (pb_bears w9.heap.size) ?assign ?body ?done ?stop
      case hc0 =>
        have o := HCD.out.ord
        rintro k (rfl | rfl | rfl | rfl)
        · exact ⟨.inl (.inl rfl), by omega⟩
        · exact ⟨.inl (.inr (.inl rfl)), by omega⟩
        · exact ⟨.inl (.inr (.inr (.inl rfl))), by omega⟩
        · exact ⟨.inl (.inr (.inr (.inr rfl))), by omega⟩
      case assign =>
        intro l' pre y C X K hI hp hc hz hK
        have b1 := bal (w := X) (.cells #[.int .i64 y.1, .int .i64 y.2] 24)
        have HK := Lib.hid (hK X.heap.size (fun k => C k ∨ k = X.heap.size) _ ⟨Steps.of_below b1 _, fun k hk => by rcases hk with hk | rfl; exact .inl hk; exact .inr ⟨Nat.le_refl _, by simp⟩⟩ (ci_more (ci_bears HCD.out _ _ _ _ hI hz (Steps.of_below b1 _)) (fun k hk => .inl hk)) ⟨sp_new X y, hz, .inr rfl⟩)
        clear hK hI hp hc b1
        gi_wp2
        exact HK.out
      case body =>
        rintro l' pre y b C X hI ⟨hyb, hbn0, hCb⟩ hp hcb hz
        exfalso
        have := (HP.out pre y hp).1
        omega
      case done =>
        rintro D C X hD hCD hI hK
        have o := HCD.out.ord
        have hnn := hI.hn
        rw [cuts_none (s := s) (z := z) (by omega)] at hnn
        have qn := (cell_of_row X bn 0 _ _ (0, 0) hnn).trans rfl
        have qz := (cell_of_row X bz 0 _ _ (0, 0) hI.hz).trans rfl
        have HRB := Lib.hid hI.hr
        have HBL := Lib.hid hI.below
        have HK := Lib.hid hK
        have hDb : br < D := by omega
        have hlr : w.heap.size ≤ br := by omega
        clear hnn hI hK HSEQ HCI HLEN HP HCLST
        gi_wp2
        refine (callsIn_wide.2 (known_any _)).mono ?_
        rintro e w12 ⟨rfl, hB12⟩
        have r12 := (hB12.block br (lt_of_block HRB.out)).trans HRB.out
        have c12 := (cell_of_row w12 br 0 _ _ (0, 0) r12).trans rfl
        have f12 : w12.frozen? ⟨br, 0, none⟩ = false := by simp [World.frozen?, r12]
        have hk12 : (w12.setCell ⟨br, 0, none⟩ (.bool true)).heap[D]? = some (.deferred (some [])) := (Below.heap_setCell w12 ⟨br, 0, none⟩ _ D (by simp; omega)).trans ((hB12.block D (lt_of_block HK.out)).trans HK.out)
        have hr12 : (w12.setCell ⟨br, 0, none⟩ (.bool true)).heap[br]? = some (.cells #[.bool true] 4 (0, 0)) := (heap_setCell_same w12 br 0 _ _ _ r12).trans rfl
        have hr13 : ((w12.setCell ⟨br, 0, none⟩ (.bool true)).putObj D (.deferred none)).heap[br]? = some (.cells #[.bool true] 4 (0, 0)) := (World.putObj_heap_other (by omega)).trans hr12
        have cr13 := (cell_of_row _ br 0 _ _ (0, 0) hr13).trans rfl
        have b12 := HBL.out.trans (hB12.mono HBL.out.size)
        have b13 := b12.trans (((Kept.refl [br] w12).setCell (p := ⟨br, 0, none⟩) (.inl (by simp)) (.bool true)).below (B := w.heap.size) (by simpa using hlr) b12.size)
        have b14 := b13.trans ((rng.Steps.putObj (fun q => q < w.heap.size) (w12.setCell ⟨br, 0, none⟩ (.bool true)) D (.deferred none) (by omega)).below (n := w.heap.size) b13.size (fun _ h => h))
        have HB14 := Lib.hid b14
        clear b12 b13 b14 hr12 r12 hB12 hr13
        gi_wp2
        refine ⟨by simp, .inl ⟨_, _, rfl, run_takeDeferred hk12, ?_⟩⟩
        exact ⟨.bool true, by simp [results, Try.results9, go_sem, cr13], rfl, HB14.out⟩
      case stop =>
        rintro D c pre C X hD hCD ⟨rfl, h2, h3⟩ hK
        have o := HCD.out.ord
        have hDb : br < D := by omega
        have hr13 : (X.putObj D (.deferred none)).heap[br]? = some (.cells #[.bool true] 4 (0, 0)) := (World.putObj_heap_other (by omega)).trans h2
        have cr13 := (cell_of_row _ br 0 _ _ (0, 0) hr13).trans rfl
        have b14 := h3.trans ((rng.Steps.putObj (fun q => q < w.heap.size) X D (.deferred none) (by omega)).below (n := w.heap.size) h3.size (fun _ h => h))
        have HK := Lib.hid hK
        have HB14 := Lib.hid b14
        clear h2 h3 hK b14 HSEQ HCI HLEN HP HCLST hr13
        gi_wp2
        refine ⟨by simp, .inl ⟨_, _, rfl, run_takeDeferred HK.out, ?_⟩⟩
        exact ⟨.bool true, by simp [results, Try.results9, go_sem, cr13], rfl, HB14.out⟩

end Go.Proofs.Ytdadcbelbkhgoaa.sp
