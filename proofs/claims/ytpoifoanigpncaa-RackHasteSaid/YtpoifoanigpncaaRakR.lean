/-
  The reference's rack, but for Late (written by gen_rakr.py).
-/
import Derived.Test.YtpoifoanigpncaaRakC
namespace Go.Proofs.Ytpoifoanigpncaa.rk
open Go.RowKit aid mem bk
attribute [local go_sem ↓] Go.wp_at_zero Go.wp_at_succ
set_option linter.unusedVariables false
set_option linter.unusedSimpArgs false

abbrev rkV (x : Rk) : Value := .agg #[.int .i64 x.floor, .int .i64 x.rtt, .int .i64 x.order, .int .i64 x.fin, .bool x.mixed, .int .i64 x.mult, .int .i64 x.round, .int .i64 x.rest]
theorem al2 (w : World) (a b : Obj) : Below w.heap.size w ((w.alloc a).alloc b) := (al w a).alloc (by simp) b
theorem al3 (w : World) (a b c : Obj) : Below w.heap.size w (((w.alloc a).alloc b).alloc c) := (al2 w a b).alloc (by simp; omega) c
theorem rtime_eq (n : Int) (w : World) : Calls Try.prog 26 #[.int .i64 n] w fun e w' => e = .returned (.int .i64 (hld n)) ∧ w = w' := by
  go_enter Try.func26, Try.ntmps26
  by_cases h1 : n < 0
  · go_wp2
    all_goals
      go_ret
      exact ⟨ret_i (by unfold hld; omega), rfl⟩
  · go_wp2
    all_goals
      go_ret
      exact ⟨ret_i (by unfold hld; omega), rfl⟩
theorem rnew_any (f : Int) (w : World) : Calls Try.prog 10 #[.int .i64 f] w fun e w' => e = .returned (rkV (newR f)) ∧ Below w.heap.size w w' := by
  go_enter Try.func10, Try.ntmps10
  go_wp2_with fail
  exact bodyPost_ret (v := rkV (newR f)) (by simp [results, Try.results10, go_sem, newR]) rfl ⟨rfl, al _ _⟩
set_option maxHeartbeats 1000000 in
theorem rec_any (r : Rc) (w : World) : Calls Try.prog 18 #[rcV r] w fun e w' => e = .returned (rcV r) ∧ Below w.heap.size w w' := by
  go_enter Try.func18, Try.ntmps18
  go_wp2_with fail
  exact bodyPost_ret (v := rcV r) (by simp [results, Try.results18, go_sem]) rfl ⟨rfl, al2 _ _ _⟩
set_option maxHeartbeats 1000000 in
theorem rdup_any {x : Rk} (ho : Ok x) (una nxt : Int) (w : World) : Calls Try.prog 34 #[rkV x, .int .i64 una, .int .i64 nxt] w fun e w' => e = .returned (.tuple #[rkV (dup x una nxt), .bool (dupB x una)]) ∧ Below w.heap.size w w' := by
  obtain ⟨m0, m1⟩ := ho.m
  clear ho
  by_cases h1 : una < x.round
  · have HB : Hid (dupB x una = false ∧ dup x una nxt = x) := Lib.hid (by unfold dup dupB; simp [h1])
    rw [HB.out.1, HB.out.2]
    clear HB
    go_enter Try.func34, Try.ntmps34
    go_wp2_with fail
    exact bodyPost_ret (v := .tuple #[rkV x, .bool false]) (by simp [results, Try.results34, go_sem]) rfl ⟨rfl, al2 _ _ _⟩
  · have HB : Hid (dupB x una = true ∧ dup x una nxt = ⟨x.floor, x.rtt, x.order, x.fin, x.mixed, min (x.mult + 1) 16, nxt, 16⟩) := Lib.hid (by unfold dup dupB; simp [h1])
    rw [HB.out.1, HB.out.2]
    clear HB
    by_cases h2 : x.mult < 16
    · rw [show min (x.mult + 1) 16 = x.mult + 1 from by omega]
      go_enter Try.func34, Try.ntmps34
      go_wp2_with fail
      exact bodyPost_ret (v := .tuple #[rkV ⟨x.floor, x.rtt, x.order, x.fin, x.mixed, x.mult + 1, nxt, 16⟩, .bool true]) (by simp [results, Try.results34, go_sem]) rfl ⟨rfl, al2 _ _ _⟩
    · have hm : x.mult = 16 := by omega
      have HM := Lib.hid hm
      rw [show min (x.mult + 1) 16 = x.mult from by omega]
      clear hm
      go_enter Try.func34, Try.ntmps34
      go_wp2_with fail
      exact bodyPost_ret (v := .tuple #[rkV ⟨x.floor, x.rtt, x.order, x.fin, x.mixed, x.mult, nxt, 16⟩, .bool true]) (by simp [results, Try.results34, go_sem]) rfl ⟨rfl, al2 _ _ _⟩
set_option maxHeartbeats 1000000 in
theorem rcalm_any {x : Rk} (ho : Ok x) (w : World) : Calls Try.prog 35 #[rkV x] w fun e w' => e = .returned (rkV (calm x)) ∧ Below w.heap.size w w' := by
  obtain ⟨p0, p1⟩ := ho.p
  clear ho
  by_cases h1 : x.rest = 1
  · have HB : Hid (calm x = ⟨x.floor, x.rtt, x.order, x.fin, x.mixed, 1, x.round, 16⟩) := Lib.hid (by unfold calm; rw [if_pos h1])
    rw [HB.out]
    have h2 : (x.rest - 1 == 0) = true := by simp; omega
    clear HB h1
    go_enter Try.func35, Try.ntmps35
    go_wp2_with fail
    exact bodyPost_ret (v := rkV ⟨x.floor, x.rtt, x.order, x.fin, x.mixed, 1, x.round, 16⟩) (by simp [results, Try.results35, go_sem]) rfl ⟨rfl, al2 _ _ _⟩
  · have HB : Hid (calm x = ⟨x.floor, x.rtt, x.order, x.fin, x.mixed, x.mult, x.round, x.rest - 1⟩) := Lib.hid (by unfold calm; rw [if_neg h1])
    rw [HB.out]
    have h2 : (x.rest - 1 == 0) = false := by simp; omega
    clear HB h1
    go_enter Try.func35, Try.ntmps35
    go_wp2_with fail
    exact bodyPost_ret (v := rkV ⟨x.floor, x.rtt, x.order, x.fin, x.mixed, x.mult, x.round, x.rest - 1⟩) (by simp [results, Try.results35, go_sem]) rfl ⟨rfl, al2 _ _ _⟩
set_option maxHeartbeats 1000000 in
theorem rwindow_any {x : Rk} (ho : Ok x) (least : Int) (has : Bool) (srtt : Int) (sharp : Bool) (w : World) :
    Calls Try.prog 14 #[rkV x, .int .i64 least, .bool has, .int .i64 srtt, .bool sharp] w fun e w' => e = .returned (.int .i64 (win x least has srtt sharp)) ∧ Below w.heap.size w w' := by
  have HE := Lib.hid (show win x least has srtt sharp = if !has || (sharp && !x.mixed) then x.floor else max (min (x.mult * hld least / 4) (hld srtt)) x.floor from rfl)
  rw [HE.out]
  clear HE
  obtain ⟨m0, m1⟩ := ho.m
  obtain ⟨fl0, fl1⟩ := ho.f
  have HL := Lib.hid (fun W => rtime_eq least W)
  have HS := Lib.hid (fun W => rtime_eq srtt W)
  have hl := hld_bd least
  generalize hld least = a at *
  generalize hld srtt = b at *
  obtain ⟨a0, a1⟩ := hl
  obtain ⟨floor, rtt, order, fin, mixed, mult, round, rest⟩ := x
  dsimp only at *
  clear ho
  have hma : 0 ≤ mult * a ∧ mult * a ≤ 1099511627776 := ⟨Int.mul_nonneg (by omega) a0, Int.le_trans (Int.mul_le_mul m1 a1 a0 (by omega)) (by omega)⟩
  obtain ⟨ma0, ma1⟩ := hma
  have y0 := heap_alloc_new w (.cells #[.int .i64 floor, .int .i64 rtt, .int .i64 order, .int .i64 fin, .bool mixed, .int .i64 mult, .int .i64 round, .int .i64 rest] 38)
  have bb := al w (.cells #[.int .i64 floor, .int .i64 rtt, .int .i64 order, .int .i64 fin, .bool mixed, .int .i64 mult, .int .i64 round, .int .i64 rest] 38)
  have c0 := cofr y0 0 _ rfl
  have c5 := cofr y0 5 _ rfl
  clear y0
  cases has with
  | false =>
    go_enter Try.func14, Try.ntmps14
    go_wp2_with fail
    all_goals
      go_ret
      exact ⟨ret_i (by (try simp) <;> omega), bb⟩
  | true =>
    rcases (show (sharp && !mixed) = true ∨ (sharp && !mixed) = false from by cases (sharp && !mixed) <;> simp) with hsm | hsm
    · obtain ⟨rfl, rfl⟩ : sharp = true ∧ mixed = false := by simpa using hsm
      go_enter Try.func14, Try.ntmps14
      go_wp2_with fail
      all_goals
        go_ret
        exact ⟨ret_i (by (try simp) <;> omega), bb⟩
    · rw [hsm]
      have hw : IntKind.i64.wrap (mult * a) = mult * a := IntWalk.i64_in _ (by omega)
      obtain ⟨q, hq⟩ : ∃ q, q = mult * a / 4 := ⟨_, rfl⟩
      have hq1 : (mult * a).tdiv 4 = q := by rw [hq]; exact Int.tdiv_eq_ediv_of_nonneg ma0
      have hq0 : 0 ≤ q ∧ q ≤ 1099511627776 := by omega
      obtain ⟨q0, q1⟩ := hq0
      rw [← hq]
      clear hq
      cases sharp with
      | false =>
        cases mixed with
        | false =>
          go_enter Try.func14, Try.ntmps14
          go_wp2_with fail
          generalize hWW : w.alloc (.cells #[.int .i64 floor, .int .i64 rtt, .int .i64 order, .int .i64 fin, .bool false, .int .i64 mult, .int .i64 round, .int .i64 rest] 38) = W at *
          have z := And.intro (show W.drew.cell? ⟨w.heap.size, 0, none⟩ = some (.int .i64 floor) from c0) (show W.drew.cell? ⟨w.heap.size, 5, none⟩ = some (.int .i64 mult) from c5)
          go_region_held3 (fun w' => w'.cell? ⟨w.heap.size, 0, none⟩ = some (.int .i64 floor) ∧ w'.cell? ⟨w.heap.size, 5, none⟩ = some (.int .i64 mult)) (first | exact z | go_keep)
            (first
              | (go_at_call 26; (with_reducible refine (HL.out _).mono ?_); rintro x w1 ⟨rfl, rfl⟩)
              | (go_at_call 26; (with_reducible refine (HS.out _).mono ?_); rintro x w1 ⟨rfl, rfl⟩))
          all_goals
            go_wp2_with fail
            all_goals
              go_ret
              exact ⟨ret_i (by (try simp) <;> omega), bb.drew⟩
        | true =>
          go_enter Try.func14, Try.ntmps14
          go_wp2_with fail
          generalize hWW : w.alloc (.cells #[.int .i64 floor, .int .i64 rtt, .int .i64 order, .int .i64 fin, .bool true, .int .i64 mult, .int .i64 round, .int .i64 rest] 38) = W at *
          have z := And.intro (show W.drew.cell? ⟨w.heap.size, 0, none⟩ = some (.int .i64 floor) from c0) (show W.drew.cell? ⟨w.heap.size, 5, none⟩ = some (.int .i64 mult) from c5)
          go_region_held3 (fun w' => w'.cell? ⟨w.heap.size, 0, none⟩ = some (.int .i64 floor) ∧ w'.cell? ⟨w.heap.size, 5, none⟩ = some (.int .i64 mult)) (first | exact z | go_keep)
            (first
              | (go_at_call 26; (with_reducible refine (HL.out _).mono ?_); rintro x w1 ⟨rfl, rfl⟩)
              | (go_at_call 26; (with_reducible refine (HS.out _).mono ?_); rintro x w1 ⟨rfl, rfl⟩))
          all_goals
            go_wp2_with fail
            all_goals
              go_ret
              exact ⟨ret_i (by (try simp) <;> omega), bb.drew⟩
      | true =>
        obtain rfl : mixed = true := by simpa using hsm
        go_enter Try.func14, Try.ntmps14
        go_wp2_with fail
        generalize hWW : w.alloc (.cells #[.int .i64 floor, .int .i64 rtt, .int .i64 order, .int .i64 fin, .bool true, .int .i64 mult, .int .i64 round, .int .i64 rest] 38) = W at *
        have z := And.intro (show W.drew.cell? ⟨w.heap.size, 0, none⟩ = some (.int .i64 floor) from c0) (show W.drew.cell? ⟨w.heap.size, 5, none⟩ = some (.int .i64 mult) from c5)
        go_region_held3 (fun w' => w'.cell? ⟨w.heap.size, 0, none⟩ = some (.int .i64 floor) ∧ w'.cell? ⟨w.heap.size, 5, none⟩ = some (.int .i64 mult)) (first | exact z | go_keep)
          (first
            | (go_at_call 26; (with_reducible refine (HL.out _).mono ?_); rintro x w1 ⟨rfl, rfl⟩)
            | (go_at_call 26; (with_reducible refine (HS.out _).mono ?_); rintro x w1 ⟨rfl, rfl⟩))
        all_goals
          go_wp2_with fail
          all_goals
            go_ret
            exact ⟨ret_i (by (try simp) <;> omega), bb.drew⟩
set_option maxRecDepth 100000 in
set_option maxHeartbeats 8000000 in
theorem rcame_any (x : Rk) (r : Rc) {now least : Int} {has told : Bool} {val : Int} (hv : 0 ≤ val ∧ val ≤ 4294967295) (hs : 0 ≤ r.sent ∧ r.sent ≤ 4611686018427387904) (hn : 0 ≤ now ∧ now ≤ 4611686018427387904) (w : World) :
    Calls Try.prog 17 #[rkV x, rcV r, .int .i64 now, .int .i64 least, .bool has, .bool told, .int .u32 val] w fun e w' => e = .returned (.tuple #[rkV (came x r now least has told val), .bool (cameB x r now least has told val)]) ∧ Below w.heap.size w w' := by
  have hm := sq.m32_bd r.sent
  have HD := Lib.hid (fun W => sq.rdist_any val (sq.m32 r.sent) W hv hm)
  obtain ⟨n0, n1⟩ := hn
  obtain ⟨s0, s1⟩ := hs
  clear hm
  by_cases h3 : r.t < x.fin
  · have h3b := decide_eq_true h3
    have hmx : max x.fin r.t = x.fin := by omega
    by_cases h2 : r.times = 1
    · have h2b : (r.times == 1) = true := by simpa using h2
      have hT : ¬ 1 < r.times := by omega
      have hTb := decide_eq_false hT
      have HR : Hid (rch x r = ⟨x.floor, x.rtt, x.order, x.fin, true, x.mult, x.round, x.rest⟩) := Lib.hid (by unfold rch; rw [hmx]; simp [h2, h3])
      clear h2 hmx
      by_cases h1 : now - r.sent < 0
      · have h1b := decide_eq_true h1
        have h1' : now < r.sent := by omega
        have HU : Hid (cameB x r now least has told val = false ∧ came x r now least has told val = ⟨x.floor, x.rtt, x.order, x.fin, true, x.mult, x.round, x.rest⟩) := Lib.hid (by have e : cameB x r now least has told val = false := (by unfold cameB unsure; simp [h1']); unfold came; rw [e, HR.out]; exact ⟨rfl, rfl⟩)
        rw [HU.out.1, HU.out.2]
        clear HU HR
        go_enter Try.func17, Try.ntmps17
        go_wp2_with (first
          | (go_at_call 42; (with_reducible refine (sq.mod_any _ _ ⟨by omega, by omega⟩).mono ?_); rintro e w1 ⟨rfl, rfl⟩)
          | (go_at_call 41; (with_reducible refine (HD.out _).mono ?_); rintro e w1 ⟨rfl, rfl⟩))
        all_goals
          exact bodyPost_ret (v := .tuple #[rkV ⟨x.floor, x.rtt, x.order, x.fin, true, x.mult, x.round, x.rest⟩, .bool false]) (by simp [results, Try.results17, go_sem] <;> omega) rfl ⟨rfl, al3 _ _ _ _⟩
      · have h1b := decide_eq_false h1
        have h1' : ¬ now < r.sent := by omega
        by_cases ho : r.order ≤ x.order
        · have hob := decide_eq_true ho
          have HU : Hid (cameB x r now least has told val = false ∧ came x r now least has told val = ⟨x.floor, x.rtt, x.order, x.fin, true, x.mult, x.round, x.rest⟩) := Lib.hid (by have e : cameB x r now least has told val = false := (by unfold cameB unsure; simp [ho]); unfold came; rw [e, HR.out]; exact ⟨rfl, rfl⟩)
          rw [HU.out.1, HU.out.2]
          clear HU HR
          go_enter Try.func17, Try.ntmps17
          go_wp2_with (first
            | (go_at_call 42; (with_reducible refine (sq.mod_any _ _ ⟨by omega, by omega⟩).mono ?_); rintro e w1 ⟨rfl, rfl⟩)
            | (go_at_call 41; (with_reducible refine (HD.out _).mono ?_); rintro e w1 ⟨rfl, rfl⟩))
          all_goals
            exact bodyPost_ret (v := .tuple #[rkV ⟨x.floor, x.rtt, x.order, x.fin, true, x.mult, x.round, x.rest⟩, .bool false]) (by simp [results, Try.results17, go_sem] <;> omega) rfl ⟨rfl, al3 _ _ _ _⟩
        · have hob := decide_eq_false ho
          have HU : Hid (cameB x r now least has told val = true ∧ came x r now least has told val = ⟨x.floor, now - r.sent, r.order, x.fin, true, x.mult, x.round, x.rest⟩) := Lib.hid (by have e : cameB x r now least has told val = true := (by unfold cameB unsure; simp [h1', hT, ho]); unfold came; rw [if_pos e, HR.out]; exact ⟨e, rfl⟩)
          rw [HU.out.1, HU.out.2]
          clear HU HR
          go_enter Try.func17, Try.ntmps17
          go_wp2_with (first
            | (go_at_call 42; (with_reducible refine (sq.mod_any _ _ ⟨by omega, by omega⟩).mono ?_); rintro e w1 ⟨rfl, rfl⟩)
            | (go_at_call 41; (with_reducible refine (HD.out _).mono ?_); rintro e w1 ⟨rfl, rfl⟩))
          all_goals
            exact bodyPost_ret (v := .tuple #[rkV ⟨x.floor, now - r.sent, r.order, x.fin, true, x.mult, x.round, x.rest⟩, .bool true]) (by simp [results, Try.results17, go_sem] <;> omega) rfl ⟨rfl, al3 _ _ _ _⟩
    · have h2b : (r.times == 1) = false := by simpa using h2
      have HR : Hid (rch x r = ⟨x.floor, x.rtt, x.order, x.fin, x.mixed, x.mult, x.round, x.rest⟩) := Lib.hid (by unfold rch; rw [hmx]; simp [h2])
      clear h2 hmx
      by_cases h1 : now - r.sent < 0
      · have h1b := decide_eq_true h1
        have h1' : now < r.sent := by omega
        have HU : Hid (cameB x r now least has told val = false ∧ came x r now least has told val = ⟨x.floor, x.rtt, x.order, x.fin, x.mixed, x.mult, x.round, x.rest⟩) := Lib.hid (by have e : cameB x r now least has told val = false := (by unfold cameB unsure; simp [h1']); unfold came; rw [e, HR.out]; exact ⟨rfl, rfl⟩)
        rw [HU.out.1, HU.out.2]
        clear HU HR
        go_enter Try.func17, Try.ntmps17
        go_wp2_with (first
          | (go_at_call 42; (with_reducible refine (sq.mod_any _ _ ⟨by omega, by omega⟩).mono ?_); rintro e w1 ⟨rfl, rfl⟩)
          | (go_at_call 41; (with_reducible refine (HD.out _).mono ?_); rintro e w1 ⟨rfl, rfl⟩))
        all_goals
          exact bodyPost_ret (v := .tuple #[rkV ⟨x.floor, x.rtt, x.order, x.fin, x.mixed, x.mult, x.round, x.rest⟩, .bool false]) (by simp [results, Try.results17, go_sem] <;> omega) rfl ⟨rfl, al3 _ _ _ _⟩
      · have h1b := decide_eq_false h1
        have h1' : ¬ now < r.sent := by omega
        by_cases hT : 1 < r.times
        · have hTb := decide_eq_true hT
          have hTe : (r.times == 1) = false := by simp; omega
          cases hab : aheadB told val r.sent with
          | true =>
            obtain ⟨rfl, hdp⟩ : told = true ∧ 0 < sq.dist val (sq.m32 r.sent) := by unfold aheadB at hab; simpa using hab
            have hdb := decide_eq_true hdp
            have HU : Hid (cameB x r now least has true val = false ∧ came x r now least has true val = ⟨x.floor, x.rtt, x.order, x.fin, x.mixed, x.mult, x.round, x.rest⟩) := Lib.hid (by have e : cameB x r now least has true val = false := (by unfold cameB unsure; simp [hT, hab]); unfold came; rw [e, HR.out]; exact ⟨rfl, rfl⟩)
            rw [HU.out.1, HU.out.2]
            clear HU HR
            go_enter Try.func17, Try.ntmps17
            go_wp2_with (first
              | (go_at_call 42; (with_reducible refine (sq.mod_any _ _ ⟨by omega, by omega⟩).mono ?_); rintro e w1 ⟨rfl, rfl⟩)
              | (go_at_call 41; (with_reducible refine (HD.out _).mono ?_); rintro e w1 ⟨rfl, rfl⟩))
            all_goals
              exact bodyPost_ret (v := .tuple #[rkV ⟨x.floor, x.rtt, x.order, x.fin, x.mixed, x.mult, x.round, x.rest⟩, .bool false]) (by simp [results, Try.results17, go_sem] <;> omega) rfl ⟨rfl, al3 _ _ _ _⟩
          | false =>
            have hdb : told = true → decide (0 < sq.dist val (sq.m32 r.sent)) = false := by intro h; unfold aheadB at hab; simpa [h] using hab
            cases told with
            | false =>
              clear hdb
              cases has with
              | false =>
                have HU : Hid (cameB x r now least false false val = false ∧ came x r now least false false val = ⟨x.floor, x.rtt, x.order, x.fin, x.mixed, x.mult, x.round, x.rest⟩) := Lib.hid (by have e : cameB x r now least false false val = false := (by unfold cameB unsure; simp [hT]); unfold came; rw [e, HR.out]; exact ⟨rfl, rfl⟩)
                rw [HU.out.1, HU.out.2]
                clear HU HR
                go_enter Try.func17, Try.ntmps17
                go_wp2_with (first
                  | (go_at_call 42; (with_reducible refine (sq.mod_any _ _ ⟨by omega, by omega⟩).mono ?_); rintro e w1 ⟨rfl, rfl⟩)
                  | (go_at_call 41; (with_reducible refine (HD.out _).mono ?_); rintro e w1 ⟨rfl, rfl⟩))
                all_goals
                  exact bodyPost_ret (v := .tuple #[rkV ⟨x.floor, x.rtt, x.order, x.fin, x.mixed, x.mult, x.round, x.rest⟩, .bool false]) (by simp [results, Try.results17, go_sem] <;> omega) rfl ⟨rfl, al3 _ _ _ _⟩
              | true =>
                by_cases hl : now - r.sent < least
                · have hlb := decide_eq_true hl
                  have HU : Hid (cameB x r now least true false val = false ∧ came x r now least true false val = ⟨x.floor, x.rtt, x.order, x.fin, x.mixed, x.mult, x.round, x.rest⟩) := Lib.hid (by have e : cameB x r now least true false val = false := (by unfold cameB unsure; simp [hT, hl]); unfold came; rw [e, HR.out]; exact ⟨rfl, rfl⟩)
                  rw [HU.out.1, HU.out.2]
                  clear HU HR
                  go_enter Try.func17, Try.ntmps17
                  go_wp2_with (first
                    | (go_at_call 42; (with_reducible refine (sq.mod_any _ _ ⟨by omega, by omega⟩).mono ?_); rintro e w1 ⟨rfl, rfl⟩)
                    | (go_at_call 41; (with_reducible refine (HD.out _).mono ?_); rintro e w1 ⟨rfl, rfl⟩))
                  all_goals
                    exact bodyPost_ret (v := .tuple #[rkV ⟨x.floor, x.rtt, x.order, x.fin, x.mixed, x.mult, x.round, x.rest⟩, .bool false]) (by simp [results, Try.results17, go_sem] <;> omega) rfl ⟨rfl, al3 _ _ _ _⟩
                · have hlb := decide_eq_false hl
                  by_cases ho : r.order ≤ x.order
                  · have hob := decide_eq_true ho
                    have HU : Hid (cameB x r now least true false val = false ∧ came x r now least true false val = ⟨x.floor, x.rtt, x.order, x.fin, x.mixed, x.mult, x.round, x.rest⟩) := Lib.hid (by have e : cameB x r now least true false val = false := (by unfold cameB unsure; simp [ho]); unfold came; rw [e, HR.out]; exact ⟨rfl, rfl⟩)
                    rw [HU.out.1, HU.out.2]
                    clear HU HR
                    go_enter Try.func17, Try.ntmps17
                    go_wp2_with (first
                      | (go_at_call 42; (with_reducible refine (sq.mod_any _ _ ⟨by omega, by omega⟩).mono ?_); rintro e w1 ⟨rfl, rfl⟩)
                      | (go_at_call 41; (with_reducible refine (HD.out _).mono ?_); rintro e w1 ⟨rfl, rfl⟩))
                    all_goals
                      exact bodyPost_ret (v := .tuple #[rkV ⟨x.floor, x.rtt, x.order, x.fin, x.mixed, x.mult, x.round, x.rest⟩, .bool false]) (by simp [results, Try.results17, go_sem] <;> omega) rfl ⟨rfl, al3 _ _ _ _⟩
                  · have hob := decide_eq_false ho
                    have HU : Hid (cameB x r now least true false val = true ∧ came x r now least true false val = ⟨x.floor, now - r.sent, r.order, x.fin, x.mixed, x.mult, x.round, x.rest⟩) := Lib.hid (by have e : cameB x r now least true false val = true := (by unfold cameB unsure; simp [h1', hl, hab, ho]); unfold came; rw [if_pos e, HR.out]; exact ⟨e, rfl⟩)
                    rw [HU.out.1, HU.out.2]
                    clear HU HR
                    go_enter Try.func17, Try.ntmps17
                    go_wp2_with (first
                      | (go_at_call 42; (with_reducible refine (sq.mod_any _ _ ⟨by omega, by omega⟩).mono ?_); rintro e w1 ⟨rfl, rfl⟩)
                      | (go_at_call 41; (with_reducible refine (HD.out _).mono ?_); rintro e w1 ⟨rfl, rfl⟩))
                    all_goals
                      exact bodyPost_ret (v := .tuple #[rkV ⟨x.floor, now - r.sent, r.order, x.fin, x.mixed, x.mult, x.round, x.rest⟩, .bool true]) (by simp [results, Try.results17, go_sem] <;> omega) rfl ⟨rfl, al3 _ _ _ _⟩
            | true =>
              have hdb := hdb rfl
              cases has with
              | false =>
                have HU : Hid (cameB x r now least false true val = false ∧ came x r now least false true val = ⟨x.floor, x.rtt, x.order, x.fin, x.mixed, x.mult, x.round, x.rest⟩) := Lib.hid (by have e : cameB x r now least false true val = false := (by unfold cameB unsure; simp [hT]); unfold came; rw [e, HR.out]; exact ⟨rfl, rfl⟩)
                rw [HU.out.1, HU.out.2]
                clear HU HR
                go_enter Try.func17, Try.ntmps17
                go_wp2_with (first
                  | (go_at_call 42; (with_reducible refine (sq.mod_any _ _ ⟨by omega, by omega⟩).mono ?_); rintro e w1 ⟨rfl, rfl⟩)
                  | (go_at_call 41; (with_reducible refine (HD.out _).mono ?_); rintro e w1 ⟨rfl, rfl⟩))
                all_goals
                  exact bodyPost_ret (v := .tuple #[rkV ⟨x.floor, x.rtt, x.order, x.fin, x.mixed, x.mult, x.round, x.rest⟩, .bool false]) (by simp [results, Try.results17, go_sem] <;> omega) rfl ⟨rfl, al3 _ _ _ _⟩
              | true =>
                by_cases hl : now - r.sent < least
                · have hlb := decide_eq_true hl
                  have HU : Hid (cameB x r now least true true val = false ∧ came x r now least true true val = ⟨x.floor, x.rtt, x.order, x.fin, x.mixed, x.mult, x.round, x.rest⟩) := Lib.hid (by have e : cameB x r now least true true val = false := (by unfold cameB unsure; simp [hT, hl]); unfold came; rw [e, HR.out]; exact ⟨rfl, rfl⟩)
                  rw [HU.out.1, HU.out.2]
                  clear HU HR
                  go_enter Try.func17, Try.ntmps17
                  go_wp2_with (first
                    | (go_at_call 42; (with_reducible refine (sq.mod_any _ _ ⟨by omega, by omega⟩).mono ?_); rintro e w1 ⟨rfl, rfl⟩)
                    | (go_at_call 41; (with_reducible refine (HD.out _).mono ?_); rintro e w1 ⟨rfl, rfl⟩))
                  all_goals
                    exact bodyPost_ret (v := .tuple #[rkV ⟨x.floor, x.rtt, x.order, x.fin, x.mixed, x.mult, x.round, x.rest⟩, .bool false]) (by simp [results, Try.results17, go_sem] <;> omega) rfl ⟨rfl, al3 _ _ _ _⟩
                · have hlb := decide_eq_false hl
                  by_cases ho : r.order ≤ x.order
                  · have hob := decide_eq_true ho
                    have HU : Hid (cameB x r now least true true val = false ∧ came x r now least true true val = ⟨x.floor, x.rtt, x.order, x.fin, x.mixed, x.mult, x.round, x.rest⟩) := Lib.hid (by have e : cameB x r now least true true val = false := (by unfold cameB unsure; simp [ho]); unfold came; rw [e, HR.out]; exact ⟨rfl, rfl⟩)
                    rw [HU.out.1, HU.out.2]
                    clear HU HR
                    go_enter Try.func17, Try.ntmps17
                    go_wp2_with (first
                      | (go_at_call 42; (with_reducible refine (sq.mod_any _ _ ⟨by omega, by omega⟩).mono ?_); rintro e w1 ⟨rfl, rfl⟩)
                      | (go_at_call 41; (with_reducible refine (HD.out _).mono ?_); rintro e w1 ⟨rfl, rfl⟩))
                    all_goals
                      exact bodyPost_ret (v := .tuple #[rkV ⟨x.floor, x.rtt, x.order, x.fin, x.mixed, x.mult, x.round, x.rest⟩, .bool false]) (by simp [results, Try.results17, go_sem] <;> omega) rfl ⟨rfl, al3 _ _ _ _⟩
                  · have hob := decide_eq_false ho
                    have HU : Hid (cameB x r now least true true val = true ∧ came x r now least true true val = ⟨x.floor, now - r.sent, r.order, x.fin, x.mixed, x.mult, x.round, x.rest⟩) := Lib.hid (by have e : cameB x r now least true true val = true := (by unfold cameB unsure; simp [h1', hl, hab, ho]); unfold came; rw [if_pos e, HR.out]; exact ⟨e, rfl⟩)
                    rw [HU.out.1, HU.out.2]
                    clear HU HR
                    go_enter Try.func17, Try.ntmps17
                    go_wp2_with (first
                      | (go_at_call 42; (with_reducible refine (sq.mod_any _ _ ⟨by omega, by omega⟩).mono ?_); rintro e w1 ⟨rfl, rfl⟩)
                      | (go_at_call 41; (with_reducible refine (HD.out _).mono ?_); rintro e w1 ⟨rfl, rfl⟩))
                    all_goals
                      exact bodyPost_ret (v := .tuple #[rkV ⟨x.floor, now - r.sent, r.order, x.fin, x.mixed, x.mult, x.round, x.rest⟩, .bool true]) (by simp [results, Try.results17, go_sem] <;> omega) rfl ⟨rfl, al3 _ _ _ _⟩
        · have hTb := decide_eq_false hT
          by_cases ho : r.order ≤ x.order
          · have hob := decide_eq_true ho
            have HU : Hid (cameB x r now least has told val = false ∧ came x r now least has told val = ⟨x.floor, x.rtt, x.order, x.fin, x.mixed, x.mult, x.round, x.rest⟩) := Lib.hid (by have e : cameB x r now least has told val = false := (by unfold cameB unsure; simp [ho]); unfold came; rw [e, HR.out]; exact ⟨rfl, rfl⟩)
            rw [HU.out.1, HU.out.2]
            clear HU HR
            go_enter Try.func17, Try.ntmps17
            go_wp2_with (first
              | (go_at_call 42; (with_reducible refine (sq.mod_any _ _ ⟨by omega, by omega⟩).mono ?_); rintro e w1 ⟨rfl, rfl⟩)
              | (go_at_call 41; (with_reducible refine (HD.out _).mono ?_); rintro e w1 ⟨rfl, rfl⟩))
            all_goals
              exact bodyPost_ret (v := .tuple #[rkV ⟨x.floor, x.rtt, x.order, x.fin, x.mixed, x.mult, x.round, x.rest⟩, .bool false]) (by simp [results, Try.results17, go_sem] <;> omega) rfl ⟨rfl, al3 _ _ _ _⟩
          · have hob := decide_eq_false ho
            have HU : Hid (cameB x r now least has told val = true ∧ came x r now least has told val = ⟨x.floor, now - r.sent, r.order, x.fin, x.mixed, x.mult, x.round, x.rest⟩) := Lib.hid (by have e : cameB x r now least has told val = true := (by unfold cameB unsure; simp [h1', hT, ho]); unfold came; rw [if_pos e, HR.out]; exact ⟨e, rfl⟩)
            rw [HU.out.1, HU.out.2]
            clear HU HR
            go_enter Try.func17, Try.ntmps17
            go_wp2_with (first
              | (go_at_call 42; (with_reducible refine (sq.mod_any _ _ ⟨by omega, by omega⟩).mono ?_); rintro e w1 ⟨rfl, rfl⟩)
              | (go_at_call 41; (with_reducible refine (HD.out _).mono ?_); rintro e w1 ⟨rfl, rfl⟩))
            all_goals
              exact bodyPost_ret (v := .tuple #[rkV ⟨x.floor, now - r.sent, r.order, x.fin, x.mixed, x.mult, x.round, x.rest⟩, .bool true]) (by simp [results, Try.results17, go_sem] <;> omega) rfl ⟨rfl, al3 _ _ _ _⟩
  · have h3b := decide_eq_false h3
    have hmx : max x.fin r.t = r.t := by omega
    have HR : Hid (rch x r = ⟨x.floor, x.rtt, x.order, r.t, x.mixed, x.mult, x.round, x.rest⟩) := Lib.hid (by unfold rch; rw [hmx]; simp [h3])
    have hle : x.fin ≤ r.t := by omega
    clear h3 hmx
    by_cases h1 : now - r.sent < 0
    · have h1b := decide_eq_true h1
      have h1' : now < r.sent := by omega
      have HU : Hid (cameB x r now least has told val = false ∧ came x r now least has told val = ⟨x.floor, x.rtt, x.order, r.t, x.mixed, x.mult, x.round, x.rest⟩) := Lib.hid (by have e : cameB x r now least has told val = false := (by unfold cameB unsure; simp [h1']); unfold came; rw [e, HR.out]; exact ⟨rfl, rfl⟩)
      rw [HU.out.1, HU.out.2]
      clear HU HR
      go_enter Try.func17, Try.ntmps17
      go_wp2_with (first
        | (go_at_call 42; (with_reducible refine (sq.mod_any _ _ ⟨by omega, by omega⟩).mono ?_); rintro e w1 ⟨rfl, rfl⟩)
        | (go_at_call 41; (with_reducible refine (HD.out _).mono ?_); rintro e w1 ⟨rfl, rfl⟩))
      all_goals
        exact bodyPost_ret (v := .tuple #[rkV ⟨x.floor, x.rtt, x.order, r.t, x.mixed, x.mult, x.round, x.rest⟩, .bool false]) (by simp [results, Try.results17, go_sem] <;> omega) rfl ⟨rfl, al3 _ _ _ _⟩
    · have h1b := decide_eq_false h1
      have h1' : ¬ now < r.sent := by omega
      by_cases hT : 1 < r.times
      · have hTb := decide_eq_true hT
        have hTe : (r.times == 1) = false := by simp; omega
        cases hab : aheadB told val r.sent with
        | true =>
          obtain ⟨rfl, hdp⟩ : told = true ∧ 0 < sq.dist val (sq.m32 r.sent) := by unfold aheadB at hab; simpa using hab
          have hdb := decide_eq_true hdp
          have HU : Hid (cameB x r now least has true val = false ∧ came x r now least has true val = ⟨x.floor, x.rtt, x.order, r.t, x.mixed, x.mult, x.round, x.rest⟩) := Lib.hid (by have e : cameB x r now least has true val = false := (by unfold cameB unsure; simp [hT, hab]); unfold came; rw [e, HR.out]; exact ⟨rfl, rfl⟩)
          rw [HU.out.1, HU.out.2]
          clear HU HR
          go_enter Try.func17, Try.ntmps17
          go_wp2_with (first
            | (go_at_call 42; (with_reducible refine (sq.mod_any _ _ ⟨by omega, by omega⟩).mono ?_); rintro e w1 ⟨rfl, rfl⟩)
            | (go_at_call 41; (with_reducible refine (HD.out _).mono ?_); rintro e w1 ⟨rfl, rfl⟩))
          all_goals
            exact bodyPost_ret (v := .tuple #[rkV ⟨x.floor, x.rtt, x.order, r.t, x.mixed, x.mult, x.round, x.rest⟩, .bool false]) (by simp [results, Try.results17, go_sem] <;> omega) rfl ⟨rfl, al3 _ _ _ _⟩
        | false =>
          have hdb : told = true → decide (0 < sq.dist val (sq.m32 r.sent)) = false := by intro h; unfold aheadB at hab; simpa [h] using hab
          cases told with
          | false =>
            clear hdb
            cases has with
            | false =>
              have HU : Hid (cameB x r now least false false val = false ∧ came x r now least false false val = ⟨x.floor, x.rtt, x.order, r.t, x.mixed, x.mult, x.round, x.rest⟩) := Lib.hid (by have e : cameB x r now least false false val = false := (by unfold cameB unsure; simp [hT]); unfold came; rw [e, HR.out]; exact ⟨rfl, rfl⟩)
              rw [HU.out.1, HU.out.2]
              clear HU HR
              go_enter Try.func17, Try.ntmps17
              go_wp2_with (first
                | (go_at_call 42; (with_reducible refine (sq.mod_any _ _ ⟨by omega, by omega⟩).mono ?_); rintro e w1 ⟨rfl, rfl⟩)
                | (go_at_call 41; (with_reducible refine (HD.out _).mono ?_); rintro e w1 ⟨rfl, rfl⟩))
              all_goals
                exact bodyPost_ret (v := .tuple #[rkV ⟨x.floor, x.rtt, x.order, r.t, x.mixed, x.mult, x.round, x.rest⟩, .bool false]) (by simp [results, Try.results17, go_sem] <;> omega) rfl ⟨rfl, al3 _ _ _ _⟩
            | true =>
              by_cases hl : now - r.sent < least
              · have hlb := decide_eq_true hl
                have HU : Hid (cameB x r now least true false val = false ∧ came x r now least true false val = ⟨x.floor, x.rtt, x.order, r.t, x.mixed, x.mult, x.round, x.rest⟩) := Lib.hid (by have e : cameB x r now least true false val = false := (by unfold cameB unsure; simp [hT, hl]); unfold came; rw [e, HR.out]; exact ⟨rfl, rfl⟩)
                rw [HU.out.1, HU.out.2]
                clear HU HR
                go_enter Try.func17, Try.ntmps17
                go_wp2_with (first
                  | (go_at_call 42; (with_reducible refine (sq.mod_any _ _ ⟨by omega, by omega⟩).mono ?_); rintro e w1 ⟨rfl, rfl⟩)
                  | (go_at_call 41; (with_reducible refine (HD.out _).mono ?_); rintro e w1 ⟨rfl, rfl⟩))
                all_goals
                  exact bodyPost_ret (v := .tuple #[rkV ⟨x.floor, x.rtt, x.order, r.t, x.mixed, x.mult, x.round, x.rest⟩, .bool false]) (by simp [results, Try.results17, go_sem] <;> omega) rfl ⟨rfl, al3 _ _ _ _⟩
              · have hlb := decide_eq_false hl
                by_cases ho : r.order ≤ x.order
                · have hob := decide_eq_true ho
                  have HU : Hid (cameB x r now least true false val = false ∧ came x r now least true false val = ⟨x.floor, x.rtt, x.order, r.t, x.mixed, x.mult, x.round, x.rest⟩) := Lib.hid (by have e : cameB x r now least true false val = false := (by unfold cameB unsure; simp [ho]); unfold came; rw [e, HR.out]; exact ⟨rfl, rfl⟩)
                  rw [HU.out.1, HU.out.2]
                  clear HU HR
                  go_enter Try.func17, Try.ntmps17
                  go_wp2_with (first
                    | (go_at_call 42; (with_reducible refine (sq.mod_any _ _ ⟨by omega, by omega⟩).mono ?_); rintro e w1 ⟨rfl, rfl⟩)
                    | (go_at_call 41; (with_reducible refine (HD.out _).mono ?_); rintro e w1 ⟨rfl, rfl⟩))
                  all_goals
                    exact bodyPost_ret (v := .tuple #[rkV ⟨x.floor, x.rtt, x.order, r.t, x.mixed, x.mult, x.round, x.rest⟩, .bool false]) (by simp [results, Try.results17, go_sem] <;> omega) rfl ⟨rfl, al3 _ _ _ _⟩
                · have hob := decide_eq_false ho
                  have HU : Hid (cameB x r now least true false val = true ∧ came x r now least true false val = ⟨x.floor, now - r.sent, r.order, r.t, x.mixed, x.mult, x.round, x.rest⟩) := Lib.hid (by have e : cameB x r now least true false val = true := (by unfold cameB unsure; simp [h1', hl, hab, ho]); unfold came; rw [if_pos e, HR.out]; exact ⟨e, rfl⟩)
                  rw [HU.out.1, HU.out.2]
                  clear HU HR
                  go_enter Try.func17, Try.ntmps17
                  go_wp2_with (first
                    | (go_at_call 42; (with_reducible refine (sq.mod_any _ _ ⟨by omega, by omega⟩).mono ?_); rintro e w1 ⟨rfl, rfl⟩)
                    | (go_at_call 41; (with_reducible refine (HD.out _).mono ?_); rintro e w1 ⟨rfl, rfl⟩))
                  all_goals
                    exact bodyPost_ret (v := .tuple #[rkV ⟨x.floor, now - r.sent, r.order, r.t, x.mixed, x.mult, x.round, x.rest⟩, .bool true]) (by simp [results, Try.results17, go_sem] <;> omega) rfl ⟨rfl, al3 _ _ _ _⟩
          | true =>
            have hdb := hdb rfl
            cases has with
            | false =>
              have HU : Hid (cameB x r now least false true val = false ∧ came x r now least false true val = ⟨x.floor, x.rtt, x.order, r.t, x.mixed, x.mult, x.round, x.rest⟩) := Lib.hid (by have e : cameB x r now least false true val = false := (by unfold cameB unsure; simp [hT]); unfold came; rw [e, HR.out]; exact ⟨rfl, rfl⟩)
              rw [HU.out.1, HU.out.2]
              clear HU HR
              go_enter Try.func17, Try.ntmps17
              go_wp2_with (first
                | (go_at_call 42; (with_reducible refine (sq.mod_any _ _ ⟨by omega, by omega⟩).mono ?_); rintro e w1 ⟨rfl, rfl⟩)
                | (go_at_call 41; (with_reducible refine (HD.out _).mono ?_); rintro e w1 ⟨rfl, rfl⟩))
              all_goals
                exact bodyPost_ret (v := .tuple #[rkV ⟨x.floor, x.rtt, x.order, r.t, x.mixed, x.mult, x.round, x.rest⟩, .bool false]) (by simp [results, Try.results17, go_sem] <;> omega) rfl ⟨rfl, al3 _ _ _ _⟩
            | true =>
              by_cases hl : now - r.sent < least
              · have hlb := decide_eq_true hl
                have HU : Hid (cameB x r now least true true val = false ∧ came x r now least true true val = ⟨x.floor, x.rtt, x.order, r.t, x.mixed, x.mult, x.round, x.rest⟩) := Lib.hid (by have e : cameB x r now least true true val = false := (by unfold cameB unsure; simp [hT, hl]); unfold came; rw [e, HR.out]; exact ⟨rfl, rfl⟩)
                rw [HU.out.1, HU.out.2]
                clear HU HR
                go_enter Try.func17, Try.ntmps17
                go_wp2_with (first
                  | (go_at_call 42; (with_reducible refine (sq.mod_any _ _ ⟨by omega, by omega⟩).mono ?_); rintro e w1 ⟨rfl, rfl⟩)
                  | (go_at_call 41; (with_reducible refine (HD.out _).mono ?_); rintro e w1 ⟨rfl, rfl⟩))
                all_goals
                  exact bodyPost_ret (v := .tuple #[rkV ⟨x.floor, x.rtt, x.order, r.t, x.mixed, x.mult, x.round, x.rest⟩, .bool false]) (by simp [results, Try.results17, go_sem] <;> omega) rfl ⟨rfl, al3 _ _ _ _⟩
              · have hlb := decide_eq_false hl
                by_cases ho : r.order ≤ x.order
                · have hob := decide_eq_true ho
                  have HU : Hid (cameB x r now least true true val = false ∧ came x r now least true true val = ⟨x.floor, x.rtt, x.order, r.t, x.mixed, x.mult, x.round, x.rest⟩) := Lib.hid (by have e : cameB x r now least true true val = false := (by unfold cameB unsure; simp [ho]); unfold came; rw [e, HR.out]; exact ⟨rfl, rfl⟩)
                  rw [HU.out.1, HU.out.2]
                  clear HU HR
                  go_enter Try.func17, Try.ntmps17
                  go_wp2_with (first
                    | (go_at_call 42; (with_reducible refine (sq.mod_any _ _ ⟨by omega, by omega⟩).mono ?_); rintro e w1 ⟨rfl, rfl⟩)
                    | (go_at_call 41; (with_reducible refine (HD.out _).mono ?_); rintro e w1 ⟨rfl, rfl⟩))
                  all_goals
                    exact bodyPost_ret (v := .tuple #[rkV ⟨x.floor, x.rtt, x.order, r.t, x.mixed, x.mult, x.round, x.rest⟩, .bool false]) (by simp [results, Try.results17, go_sem] <;> omega) rfl ⟨rfl, al3 _ _ _ _⟩
                · have hob := decide_eq_false ho
                  have HU : Hid (cameB x r now least true true val = true ∧ came x r now least true true val = ⟨x.floor, now - r.sent, r.order, r.t, x.mixed, x.mult, x.round, x.rest⟩) := Lib.hid (by have e : cameB x r now least true true val = true := (by unfold cameB unsure; simp [h1', hl, hab, ho]); unfold came; rw [if_pos e, HR.out]; exact ⟨e, rfl⟩)
                  rw [HU.out.1, HU.out.2]
                  clear HU HR
                  go_enter Try.func17, Try.ntmps17
                  go_wp2_with (first
                    | (go_at_call 42; (with_reducible refine (sq.mod_any _ _ ⟨by omega, by omega⟩).mono ?_); rintro e w1 ⟨rfl, rfl⟩)
                    | (go_at_call 41; (with_reducible refine (HD.out _).mono ?_); rintro e w1 ⟨rfl, rfl⟩))
                  all_goals
                    exact bodyPost_ret (v := .tuple #[rkV ⟨x.floor, now - r.sent, r.order, r.t, x.mixed, x.mult, x.round, x.rest⟩, .bool true]) (by simp [results, Try.results17, go_sem] <;> omega) rfl ⟨rfl, al3 _ _ _ _⟩
      · have hTb := decide_eq_false hT
        by_cases ho : r.order ≤ x.order
        · have hob := decide_eq_true ho
          have HU : Hid (cameB x r now least has told val = false ∧ came x r now least has told val = ⟨x.floor, x.rtt, x.order, r.t, x.mixed, x.mult, x.round, x.rest⟩) := Lib.hid (by have e : cameB x r now least has told val = false := (by unfold cameB unsure; simp [ho]); unfold came; rw [e, HR.out]; exact ⟨rfl, rfl⟩)
          rw [HU.out.1, HU.out.2]
          clear HU HR
          go_enter Try.func17, Try.ntmps17
          go_wp2_with (first
            | (go_at_call 42; (with_reducible refine (sq.mod_any _ _ ⟨by omega, by omega⟩).mono ?_); rintro e w1 ⟨rfl, rfl⟩)
            | (go_at_call 41; (with_reducible refine (HD.out _).mono ?_); rintro e w1 ⟨rfl, rfl⟩))
          all_goals
            exact bodyPost_ret (v := .tuple #[rkV ⟨x.floor, x.rtt, x.order, r.t, x.mixed, x.mult, x.round, x.rest⟩, .bool false]) (by simp [results, Try.results17, go_sem] <;> omega) rfl ⟨rfl, al3 _ _ _ _⟩
        · have hob := decide_eq_false ho
          have HU : Hid (cameB x r now least has told val = true ∧ came x r now least has told val = ⟨x.floor, now - r.sent, r.order, r.t, x.mixed, x.mult, x.round, x.rest⟩) := Lib.hid (by have e : cameB x r now least has told val = true := (by unfold cameB unsure; simp [h1', hT, ho]); unfold came; rw [if_pos e, HR.out]; exact ⟨e, rfl⟩)
          rw [HU.out.1, HU.out.2]
          clear HU HR
          go_enter Try.func17, Try.ntmps17
          go_wp2_with (first
            | (go_at_call 42; (with_reducible refine (sq.mod_any _ _ ⟨by omega, by omega⟩).mono ?_); rintro e w1 ⟨rfl, rfl⟩)
            | (go_at_call 41; (with_reducible refine (HD.out _).mono ?_); rintro e w1 ⟨rfl, rfl⟩))
          all_goals
            exact bodyPost_ret (v := .tuple #[rkV ⟨x.floor, now - r.sent, r.order, r.t, x.mixed, x.mult, x.round, x.rest⟩, .bool true]) (by simp [results, Try.results17, go_sem] <;> omega) rfl ⟨rfl, al3 _ _ _ _⟩
end Go.Proofs.Ytpoifoanigpncaa.rk
