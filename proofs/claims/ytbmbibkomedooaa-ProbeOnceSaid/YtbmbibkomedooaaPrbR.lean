/-
  The reference's probe.
-/
import Derived.Test.YtbmbibkomedooaaPrbB
namespace Go.Proofs.Ytbmbibkomedooaa.pb
open Go.RowKit aid mem sp
attribute [local go_sem ↓] Go.wp_at_zero Go.wp_at_succ
set_option linter.unusedVariables false
set_option linter.unusedSimpArgs false

abbrev pbV (p : Pb) : Value := .agg (cellsP p)
theorem rtime_eq (n : Int) (w : World) : Calls Try.prog 19 #[.int .i64 n] w fun e w' => e = .returned (.int .i64 (min (max n 0) 68719476736)) ∧ w = w' := by
  go_enter Try.func19, Try.ntmps19
  by_cases h1 : n < 0
  · go_wp2
    all_goals
      go_ret
      exact ⟨ret_i (by omega), rfl⟩
  · go_wp2
    all_goals
      go_ret
      exact ⟨ret_i (by omega), rfl⟩
theorem rwait_eq (srtt : Int) (has one : Bool) (delay : Int) (w : World) : Calls Try.prog 9 #[.int .i64 srtt, .bool has, .bool one, .int .i64 delay] w fun e w' => e = .returned (.int .i64 (wt srtt has one delay)) ∧ w = w' := by
  have e1 : 0 ≤ min (max srtt 0) 68719476736 ∧ min (max srtt 0) 68719476736 ≤ 68719476736 := by omega
  have e2 : 0 ≤ min (max delay 0) 68719476736 ∧ min (max delay 0) 68719476736 ≤ 68719476736 := by omega
  have HE := Lib.hid (show wt srtt has one delay = if has then min (max (2 * min (max srtt 0) 68719476736 + if one then min (max delay 0) 68719476736 else 0) 1) 68719476736 else 1000000 from rfl)
  have H1 := Lib.hid (rtime_eq srtt)
  have H2 := Lib.hid (rtime_eq delay)
  rw [HE.out]
  clear HE
  generalize min (max srtt 0) 68719476736 = a at *
  generalize min (max delay 0) 68719476736 = b at *
  obtain ⟨a0, a1⟩ := e1
  obtain ⟨b0, b1⟩ := e2
  go_enter Try.func9, Try.ntmps9
  cases has with
  | false =>
    go_wp2
    go_ret
    exact ⟨rfl, rfl⟩
  | true =>
    cases one with
    | false =>
      go_wp2_with (go_at_call 19; (with_reducible refine (H1.out _).mono ?_); rintro e w1 ⟨rfl, rfl⟩)
      all_goals
        go_ret
        exact ⟨ret_i (by (try simp) <;> omega), rfl⟩
    | true =>
      go_wp2_with (first
        | (go_at_call 19; (with_reducible refine (H1.out _).mono ?_); rintro e w1 ⟨rfl, rfl⟩)
        | (go_at_call 19; (with_reducible refine (H2.out _).mono ?_); rintro e w1 ⟨rfl, rfl⟩))
      all_goals
        go_ret
        exact ⟨ret_i (by (try simp) <;> omega), rfl⟩
set_option maxHeartbeats 1000000 in
theorem rstart_any (p : Pb) (n : Int) (g : Bool) (w : World) : Calls Try.prog 10 #[pbV p, .int .i64 n, .bool g] w fun e w' => e = .returned (.tuple #[pbV (stP p n g), .int .i64 (stE p n)]) ∧ Below w.heap.size w w' := by
  obtain ⟨on, again, fin⟩ := p
  cases on with
  | true =>
    go_enter Try.func10, Try.ntmps10
    go_wp2
    refine bodyPost_ret (v := .tuple #[pbV ⟨true, again, fin⟩, .int .i64 13]) (by simp [results, Try.results10, go_sem]) rfl ⟨rfl, ?_⟩
    exact ((Below.refl _ _).alloc (Nat.le_refl _) _).alloc (by simp) _
  | false =>
    by_cases h1 : n < 0
    · have HE : stE ⟨false, again, fin⟩ n = 3 := by unfold stE; rw [if_neg (by simp), if_pos (.inl h1)]
      have HP : stP ⟨false, again, fin⟩ n g = ⟨false, again, fin⟩ := by unfold stP; rw [HE]; rfl
      rw [HE, HP]
      clear HE HP
      go_enter Try.func10, Try.ntmps10
      go_wp2
      refine bodyPost_ret (v := .tuple #[pbV ⟨false, again, fin⟩, .int .i64 3]) (by simp [results, Try.results10, go_sem]) rfl ⟨rfl, ?_⟩
      exact ((Below.refl _ _).alloc (Nat.le_refl _) _).alloc (by simp) _
    · by_cases h2 : 4611686018427387904 < n
      · have HE : stE ⟨false, again, fin⟩ n = 3 := by unfold stE; rw [if_neg (by simp), if_pos (.inr h2)]
        have HP : stP ⟨false, again, fin⟩ n g = ⟨false, again, fin⟩ := by unfold stP; rw [HE]; rfl
        rw [HE, HP]
        clear HE HP
        go_enter Try.func10, Try.ntmps10
        go_wp2
        refine bodyPost_ret (v := .tuple #[pbV ⟨false, again, fin⟩, .int .i64 3]) (by simp [results, Try.results10, go_sem]) rfl ⟨rfl, ?_⟩
        exact ((Below.refl _ _).alloc (Nat.le_refl _) _).alloc (by simp) _
      · have HE : stE ⟨false, again, fin⟩ n = 0 := by unfold stE; rw [if_neg (by simp), if_neg (by omega)]
        have HP : stP ⟨false, again, fin⟩ n g = ⟨true, g, n⟩ := by unfold stP; rw [HE]; rfl
        rw [HE, HP]
        clear HE HP
        go_enter Try.func10, Try.ntmps10
        go_wp2
        refine bodyPost_ret (v := .tuple #[pbV ⟨true, g, n⟩, .int .i64 0]) (by simp [results, Try.results10, go_sem]) rfl ⟨rfl, ?_⟩
        exact ((Below.refl _ _).alloc (Nat.le_refl _) _).alloc (by simp) _
theorem tell_no {p : Pb} {ack : Int} {isDup : Bool} {d : Int × Int} {bare : Bool} (h : tellN p ack isDup d bare = 0) : Value.tuple #[pbV (tellP p ack isDup d bare), .int .i64 (tellN p ack isDup d bare)] = .tuple #[pbV p, .int .i64 0] := by unfold tellP; rw [h, if_pos rfl]
theorem tell_yes {p : Pb} {ack : Int} {isDup : Bool} {d : Int × Int} {bare : Bool} {n : Int} (h : tellN p ack isDup d bare = n) (hn : n ≠ 0) : Value.tuple #[pbV (tellP p ack isDup d bare), .int .i64 (tellN p ack isDup d bare)] = .tuple #[pbV Pb.off, .int .i64 n] := by unfold tellP; rw [h, if_neg hn]
def RbAt (w : World) (B : Nat) (p : Pb) : Prop := w.heap[B]? = some (.cells (cellsP p) 29 (0, 0))
theorem RbAt.put {w : World} {B : Nat} {p : Pb} (h : RbAt w B p) (a b : Bool) (n : Int) : RbAt (((w.setCell ⟨B, 0, none⟩ (.bool a)).setCell ⟨B, 1, none⟩ (.bool b)).setCell ⟨B, 2, none⟩ (.int .i64 n)) B ⟨a, b, n⟩ :=
  (heap_setCell_same _ B 2 _ _ _ (heap_setCell_same _ B 1 _ _ _ (heap_setCell_same _ B 0 _ _ _ h))).trans rfl
theorem told_boxes (w : World) (p : Pb) (d : Int × Int) : ∀ W, W = (((w.alloc (.cells (cellsP p) 29)).alloc (.cells #[.int .i64 d.1, .int .i64 d.2] 31)).alloc (.cells #[.bool false, .bool false, .int .i64 0] 29)) →
    RbAt W w.heap.size p ∧ SpAt W (w.heap.size + 1) d ∧ RbAt W (w.heap.size + 1 + 1) Pb.off ∧ Below w.heap.size w W ∧ W.heap.size = w.heap.size + 3 := by
  rintro W rfl
  have y0 := heap_alloc_new w (.cells (cellsP p) 29)
  have b0 := bal (w := w) (.cells (cellsP p) 29)
  have z0 : (w.alloc (.cells (cellsP p) 29)).heap.size = w.heap.size + 1 := by simp
  generalize w.alloc (.cells (cellsP p) 29) = w1 at *
  have y1 := heap_alloc_new w1 (.cells #[.int .i64 d.1, .int .i64 d.2] 31)
  have b1 := bal (w := w1) (.cells #[.int .i64 d.1, .int .i64 d.2] 31)
  have z1 : (w1.alloc (.cells #[.int .i64 d.1, .int .i64 d.2] 31)).heap.size = w.heap.size + 1 + 1 := by simp [z0]
  generalize w1.alloc (.cells #[.int .i64 d.1, .int .i64 d.2] 31) = w2 at *
  have y2 := heap_alloc_new w2 (.cells #[.bool false, .bool false, .int .i64 0] 29)
  have b2 := bal (w := w2) (.cells #[.bool false, .bool false, .int .i64 0] 29)
  have z2 : (w2.alloc (.cells #[.bool false, .bool false, .int .i64 0] 29)).heap.size = w.heap.size + 3 := by simp [z1]
  generalize w2.alloc (.cells #[.bool false, .bool false, .int .i64 0] 29) = w3 at *
  rw [z0] at y1; rw [z1] at y2
  have b02 := b1.trans (b2.mono b1.size)
  exact ⟨(b02.block _ (by omega)).trans y0, (b2.block _ (by omega)).trans y1, y2, b0.trans (b02.mono b0.size), z2⟩
theorem kr3 {w0 w : World} {B : Nat} (h : Below w0.heap.size w0 w) (hB : w0.heap.size ≤ B) (a b c : Value) : Below w0.heap.size w0 (((w.setCell ⟨B, 0, none⟩ a).setCell ⟨B, 1, none⟩ b).setCell ⟨B, 2, none⟩ c) :=
  h.trans ((kp3 w B a b c).below (by simpa using hB) h.size)
set_option maxRecDepth 100000 in
set_option maxHeartbeats 4000000 in
theorem rtold_any (p : Pb) (ack : Int) (isDup : Bool) (d : Int × Int) (bare : Bool) (w : World) : Calls Try.prog 13 #[pbV p, .int .i64 ack, .bool isDup, spV d, .bool bare] w fun e w' => e = .returned (.tuple #[pbV (tellP p ack isDup d bare), .int .i64 (tellN p ack isDup d bare)]) ∧ Below w.heap.size w w' := by
  have HL := Lib.hid (rlen_any d)
  obtain ⟨on, again, fin⟩ := p
  have HN := Lib.hid (show tellN ⟨on, again, fin⟩ ack isDup d bare = if on then (if again && isDup && decide (0 < lenI d) && (d.2 == fin) then 1 else if ack < fin then 0 else if !again then 1 else if fin < ack then 2 else if bare then 1 else 0) else 0 from by simp [tellN, asks, qB])
  have HT0 := Lib.hid (tell_no (p := ⟨on, again, fin⟩) (ack := ack) (isDup := isDup) (d := d) (bare := bare))
  have HT1 := Lib.hid (tell_yes (p := ⟨on, again, fin⟩) (ack := ack) (isDup := isDup) (d := d) (bare := bare) (n := 1))
  have HT2 := Lib.hid (tell_yes (p := ⟨on, again, fin⟩) (ack := ack) (isDup := isDup) (d := d) (bare := bare) (n := 2))
  generalize Value.tuple #[pbV (tellP ⟨on, again, fin⟩ ack isDup d bare), .int .i64 (tellN ⟨on, again, fin⟩ ack isDup d bare)] = V at *
  generalize tellN ⟨on, again, fin⟩ ack isDup d bare = N at *
  generalize lenI d = L at *
  obtain ⟨d1, d2⟩ := d
  have HB := Lib.hid (told_boxes w ⟨on, again, fin⟩ (d1, d2))
  cases on with
  | false =>
    have hN : N = 0 := HN.out
    go_enter Try.func13, Try.ntmps13
    go_wp2_with fail
    refine bodyPost_ret (v := .tuple #[pbV ⟨false, again, fin⟩, .int .i64 0]) (by simp [results, Try.results13, go_sem]) rfl ⟨by rw [HT0.out hN], ?_⟩
    exact (((Below.refl _ _).alloc (Nat.le_refl _) _).alloc (by simp) _).alloc (by simp; omega) _
  | true =>
    -- ways
    cases again with
    | false =>
      by_cases h1 : ack < fin
      · have h1b := decide_eq_true h1
        have HNN : Hid (N = 0) := Lib.hid (by rw [HN.out]; simp [*] <;> omega)
        clear HN
        go_enter Try.func13, Try.ntmps13
        go_wp2_with fail
        exact bodyPost_ret (v := .tuple #[pbV ⟨true, false, fin⟩, .int .i64 0]) (by simp [results, Try.results13, go_sem, Pb.off]) rfl ⟨by rw [HT0.out HNN.out], (((Below.refl _ _).alloc (Nat.le_refl _) _).alloc (by simp) _).alloc (by simp; omega) _⟩
      · have h1b := decide_eq_false h1
        have HNN : Hid (N = 1) := Lib.hid (by rw [HN.out]; simp [*] <;> omega)
        clear HN
        go_enter Try.func13, Try.ntmps13
        go_wp2_with fail
        exact bodyPost_ret (v := .tuple #[pbV Pb.off, .int .i64 1]) (by simp [results, Try.results13, go_sem, Pb.off]) rfl ⟨by rw [HT1.out HNN.out (by decide)], (((Below.refl _ _).alloc (Nat.le_refl _) _).alloc (by simp) _).alloc (by simp; omega) _⟩
    | true =>
      cases isDup with
      | false =>
        by_cases h1 : ack < fin
        · have h1b := decide_eq_true h1
          have HNN : Hid (N = 0) := Lib.hid (by rw [HN.out]; simp [*] <;> omega)
          clear HN
          go_enter Try.func13, Try.ntmps13
          go_wp2_with fail
          exact bodyPost_ret (v := .tuple #[pbV ⟨true, true, fin⟩, .int .i64 0]) (by simp [results, Try.results13, go_sem, Pb.off]) rfl ⟨by rw [HT0.out HNN.out], (((Below.refl _ _).alloc (Nat.le_refl _) _).alloc (by simp) _).alloc (by simp; omega) _⟩
        · have h1b := decide_eq_false h1
          by_cases h3 : fin < ack
          · have h3b := decide_eq_true h3
            have HNN : Hid (N = 2) := Lib.hid (by rw [HN.out]; simp [*] <;> omega)
            clear HN
            go_enter Try.func13, Try.ntmps13
            go_wp2_with fail
            exact bodyPost_ret (v := .tuple #[pbV Pb.off, .int .i64 2]) (by simp [results, Try.results13, go_sem, Pb.off]) rfl ⟨by rw [HT2.out HNN.out (by decide)], (((Below.refl _ _).alloc (Nat.le_refl _) _).alloc (by simp) _).alloc (by simp; omega) _⟩
          · have h3b := decide_eq_false h3
            cases bare with
            | true =>
              have HNN : Hid (N = 1) := Lib.hid (by rw [HN.out]; simp [*] <;> omega)
              clear HN
              go_enter Try.func13, Try.ntmps13
              go_wp2_with fail
              exact bodyPost_ret (v := .tuple #[pbV Pb.off, .int .i64 1]) (by simp [results, Try.results13, go_sem, Pb.off]) rfl ⟨by rw [HT1.out HNN.out (by decide)], (((Below.refl _ _).alloc (Nat.le_refl _) _).alloc (by simp) _).alloc (by simp; omega) _⟩
            | false =>
              have HNN : Hid (N = 0) := Lib.hid (by rw [HN.out]; simp [*] <;> omega)
              clear HN
              go_enter Try.func13, Try.ntmps13
              go_wp2_with fail
              exact bodyPost_ret (v := .tuple #[pbV ⟨true, true, fin⟩, .int .i64 0]) (by simp [results, Try.results13, go_sem, Pb.off]) rfl ⟨by rw [HT0.out HNN.out], (((Below.refl _ _).alloc (Nat.le_refl _) _).alloc (by simp) _).alloc (by simp; omega) _⟩
      | true =>
        by_cases hl : 0 < L
        · have hlb := decide_eq_true hl
          by_cases he : d2 = fin
          · have heb : (d2 == fin) = true := by simpa using he
            have HE := Lib.hid he
            clear he
            have HNN : Hid (N = 1) := Lib.hid (by rw [HN.out]; simp [*] <;> omega)
            clear HN
            go_enter Try.func13, Try.ntmps13
            go_wp2_with (go_at_call 20; ((with_reducible refine (HL.out _).mono ?_); rintro e w1 ⟨rfl, hb1⟩; obtain ⟨r0, rs, r2, rb, rz⟩ := HB.out _ rfl; replace r0 := (hb1.block _ (by rw [rz]; omega)).trans r0; replace r2 := (hb1.block _ (by rw [rz]; omega)).trans r2; replace rs := (hb1.block _ (by rw [rz]; omega)).trans rs; have rb1 := Lib.hid (rb.trans (hb1.mono rb.size)); have c0 := cofr r0 0 _ rfl; have c1 := cofr r0 1 _ rfl; have c2 := cofr r0 2 _ rfl; have d1' := cofr rs 1 _ rfl; have e0 := cofr r2 0 _ rfl; have e1 := cofr r2 1 _ rfl; have e2 := cofr r2 2 _ rfl; have f0 := fofr r2 0; have f1 := fofr r2 1; have f2 := fofr r2 2; have HR2 := Lib.hid r2; clear r0 r2 rb rs hb1 rz))
            have q := RbAt.put (p := Pb.off) HR2.out false false 0
            have q0 := cofr q 0 _ rfl
            have q1 := cofr q 1 _ rfl
            have q2 := cofr q 2 _ rfl
            exact bodyPost_ret (v := .tuple #[pbV Pb.off, .int .i64 1]) (by simp [results, Try.results13, go_sem, q0, q1, q2, Pb.off]) rfl ⟨by rw [HT1.out HNN.out (by decide)], kr3 rb1.out (by omega) _ _ _⟩
          · have heb : (d2 == fin) = false := by simpa using he
            clear he
            by_cases h1 : ack < fin
            · have h1b := decide_eq_true h1
              have HNN : Hid (N = 0) := Lib.hid (by rw [HN.out]; simp [*] <;> omega)
              clear HN
              go_enter Try.func13, Try.ntmps13
              go_wp2_with (go_at_call 20; ((with_reducible refine (HL.out _).mono ?_); rintro e w1 ⟨rfl, hb1⟩; obtain ⟨r0, rs, r2, rb, rz⟩ := HB.out _ rfl; replace r0 := (hb1.block _ (by rw [rz]; omega)).trans r0; replace r2 := (hb1.block _ (by rw [rz]; omega)).trans r2; replace rs := (hb1.block _ (by rw [rz]; omega)).trans rs; have rb1 := Lib.hid (rb.trans (hb1.mono rb.size)); have c0 := cofr r0 0 _ rfl; have c1 := cofr r0 1 _ rfl; have c2 := cofr r0 2 _ rfl; have d1' := cofr rs 1 _ rfl; have e0 := cofr r2 0 _ rfl; have e1 := cofr r2 1 _ rfl; have e2 := cofr r2 2 _ rfl; have f0 := fofr r2 0; have f1 := fofr r2 1; have f2 := fofr r2 2; have HR2 := Lib.hid r2; clear r0 r2 rb rs hb1 rz))
              have q := RbAt.put (p := Pb.off) HR2.out true true fin
              have q0 := cofr q 0 _ rfl
              have q1 := cofr q 1 _ rfl
              have q2 := cofr q 2 _ rfl
              exact bodyPost_ret (v := .tuple #[pbV ⟨true, true, fin⟩, .int .i64 0]) (by simp [results, Try.results13, go_sem, q0, q1, q2, Pb.off]) rfl ⟨by rw [HT0.out HNN.out], kr3 rb1.out (by omega) _ _ _⟩
            · have h1b := decide_eq_false h1
              by_cases h3 : fin < ack
              · have h3b := decide_eq_true h3
                have HNN : Hid (N = 2) := Lib.hid (by rw [HN.out]; simp [*] <;> omega)
                clear HN
                go_enter Try.func13, Try.ntmps13
                go_wp2_with (go_at_call 20; ((with_reducible refine (HL.out _).mono ?_); rintro e w1 ⟨rfl, hb1⟩; obtain ⟨r0, rs, r2, rb, rz⟩ := HB.out _ rfl; replace r0 := (hb1.block _ (by rw [rz]; omega)).trans r0; replace r2 := (hb1.block _ (by rw [rz]; omega)).trans r2; replace rs := (hb1.block _ (by rw [rz]; omega)).trans rs; have rb1 := Lib.hid (rb.trans (hb1.mono rb.size)); have c0 := cofr r0 0 _ rfl; have c1 := cofr r0 1 _ rfl; have c2 := cofr r0 2 _ rfl; have d1' := cofr rs 1 _ rfl; have e0 := cofr r2 0 _ rfl; have e1 := cofr r2 1 _ rfl; have e2 := cofr r2 2 _ rfl; have f0 := fofr r2 0; have f1 := fofr r2 1; have f2 := fofr r2 2; have HR2 := Lib.hid r2; clear r0 r2 rb rs hb1 rz))
                have q := RbAt.put (p := Pb.off) HR2.out false false 0
                have q0 := cofr q 0 _ rfl
                have q1 := cofr q 1 _ rfl
                have q2 := cofr q 2 _ rfl
                exact bodyPost_ret (v := .tuple #[pbV Pb.off, .int .i64 2]) (by simp [results, Try.results13, go_sem, q0, q1, q2, Pb.off]) rfl ⟨by rw [HT2.out HNN.out (by decide)], kr3 rb1.out (by omega) _ _ _⟩
              · have h3b := decide_eq_false h3
                cases bare with
                | true =>
                  have HNN : Hid (N = 1) := Lib.hid (by rw [HN.out]; simp [*] <;> omega)
                  clear HN
                  go_enter Try.func13, Try.ntmps13
                  go_wp2_with (go_at_call 20; ((with_reducible refine (HL.out _).mono ?_); rintro e w1 ⟨rfl, hb1⟩; obtain ⟨r0, rs, r2, rb, rz⟩ := HB.out _ rfl; replace r0 := (hb1.block _ (by rw [rz]; omega)).trans r0; replace r2 := (hb1.block _ (by rw [rz]; omega)).trans r2; replace rs := (hb1.block _ (by rw [rz]; omega)).trans rs; have rb1 := Lib.hid (rb.trans (hb1.mono rb.size)); have c0 := cofr r0 0 _ rfl; have c1 := cofr r0 1 _ rfl; have c2 := cofr r0 2 _ rfl; have d1' := cofr rs 1 _ rfl; have e0 := cofr r2 0 _ rfl; have e1 := cofr r2 1 _ rfl; have e2 := cofr r2 2 _ rfl; have f0 := fofr r2 0; have f1 := fofr r2 1; have f2 := fofr r2 2; have HR2 := Lib.hid r2; clear r0 r2 rb rs hb1 rz))
                  have q := RbAt.put (p := Pb.off) HR2.out false false 0
                  have q0 := cofr q 0 _ rfl
                  have q1 := cofr q 1 _ rfl
                  have q2 := cofr q 2 _ rfl
                  exact bodyPost_ret (v := .tuple #[pbV Pb.off, .int .i64 1]) (by simp [results, Try.results13, go_sem, q0, q1, q2, Pb.off]) rfl ⟨by rw [HT1.out HNN.out (by decide)], kr3 rb1.out (by omega) _ _ _⟩
                | false =>
                  have HNN : Hid (N = 0) := Lib.hid (by rw [HN.out]; simp [*] <;> omega)
                  clear HN
                  go_enter Try.func13, Try.ntmps13
                  go_wp2_with (go_at_call 20; ((with_reducible refine (HL.out _).mono ?_); rintro e w1 ⟨rfl, hb1⟩; obtain ⟨r0, rs, r2, rb, rz⟩ := HB.out _ rfl; replace r0 := (hb1.block _ (by rw [rz]; omega)).trans r0; replace r2 := (hb1.block _ (by rw [rz]; omega)).trans r2; replace rs := (hb1.block _ (by rw [rz]; omega)).trans rs; have rb1 := Lib.hid (rb.trans (hb1.mono rb.size)); have c0 := cofr r0 0 _ rfl; have c1 := cofr r0 1 _ rfl; have c2 := cofr r0 2 _ rfl; have d1' := cofr rs 1 _ rfl; have e0 := cofr r2 0 _ rfl; have e1 := cofr r2 1 _ rfl; have e2 := cofr r2 2 _ rfl; have f0 := fofr r2 0; have f1 := fofr r2 1; have f2 := fofr r2 2; have HR2 := Lib.hid r2; clear r0 r2 rb rs hb1 rz))
                  have q := RbAt.put (p := Pb.off) HR2.out true true fin
                  have q0 := cofr q 0 _ rfl
                  have q1 := cofr q 1 _ rfl
                  have q2 := cofr q 2 _ rfl
                  exact bodyPost_ret (v := .tuple #[pbV ⟨true, true, fin⟩, .int .i64 0]) (by simp [results, Try.results13, go_sem, q0, q1, q2, Pb.off]) rfl ⟨by rw [HT0.out HNN.out], kr3 rb1.out (by omega) _ _ _⟩
        · have hlb := decide_eq_false hl
          by_cases h1 : ack < fin
          · have h1b := decide_eq_true h1
            have HNN : Hid (N = 0) := Lib.hid (by rw [HN.out]; simp [*] <;> omega)
            clear HN
            go_enter Try.func13, Try.ntmps13
            go_wp2_with (go_at_call 20; ((with_reducible refine (HL.out _).mono ?_); rintro e w1 ⟨rfl, hb1⟩; obtain ⟨r0, rs, r2, rb, rz⟩ := HB.out _ rfl; replace r0 := (hb1.block _ (by rw [rz]; omega)).trans r0; replace r2 := (hb1.block _ (by rw [rz]; omega)).trans r2; replace rs := (hb1.block _ (by rw [rz]; omega)).trans rs; have rb1 := Lib.hid (rb.trans (hb1.mono rb.size)); have c0 := cofr r0 0 _ rfl; have c1 := cofr r0 1 _ rfl; have c2 := cofr r0 2 _ rfl; have d1' := cofr rs 1 _ rfl; have e0 := cofr r2 0 _ rfl; have e1 := cofr r2 1 _ rfl; have e2 := cofr r2 2 _ rfl; have f0 := fofr r2 0; have f1 := fofr r2 1; have f2 := fofr r2 2; have HR2 := Lib.hid r2; clear r0 r2 rb rs hb1 rz))
            have q := RbAt.put (p := Pb.off) HR2.out true true fin
            have q0 := cofr q 0 _ rfl
            have q1 := cofr q 1 _ rfl
            have q2 := cofr q 2 _ rfl
            exact bodyPost_ret (v := .tuple #[pbV ⟨true, true, fin⟩, .int .i64 0]) (by simp [results, Try.results13, go_sem, q0, q1, q2, Pb.off]) rfl ⟨by rw [HT0.out HNN.out], kr3 rb1.out (by omega) _ _ _⟩
          · have h1b := decide_eq_false h1
            by_cases h3 : fin < ack
            · have h3b := decide_eq_true h3
              have HNN : Hid (N = 2) := Lib.hid (by rw [HN.out]; simp [*] <;> omega)
              clear HN
              go_enter Try.func13, Try.ntmps13
              go_wp2_with (go_at_call 20; ((with_reducible refine (HL.out _).mono ?_); rintro e w1 ⟨rfl, hb1⟩; obtain ⟨r0, rs, r2, rb, rz⟩ := HB.out _ rfl; replace r0 := (hb1.block _ (by rw [rz]; omega)).trans r0; replace r2 := (hb1.block _ (by rw [rz]; omega)).trans r2; replace rs := (hb1.block _ (by rw [rz]; omega)).trans rs; have rb1 := Lib.hid (rb.trans (hb1.mono rb.size)); have c0 := cofr r0 0 _ rfl; have c1 := cofr r0 1 _ rfl; have c2 := cofr r0 2 _ rfl; have d1' := cofr rs 1 _ rfl; have e0 := cofr r2 0 _ rfl; have e1 := cofr r2 1 _ rfl; have e2 := cofr r2 2 _ rfl; have f0 := fofr r2 0; have f1 := fofr r2 1; have f2 := fofr r2 2; have HR2 := Lib.hid r2; clear r0 r2 rb rs hb1 rz))
              have q := RbAt.put (p := Pb.off) HR2.out false false 0
              have q0 := cofr q 0 _ rfl
              have q1 := cofr q 1 _ rfl
              have q2 := cofr q 2 _ rfl
              exact bodyPost_ret (v := .tuple #[pbV Pb.off, .int .i64 2]) (by simp [results, Try.results13, go_sem, q0, q1, q2, Pb.off]) rfl ⟨by rw [HT2.out HNN.out (by decide)], kr3 rb1.out (by omega) _ _ _⟩
            · have h3b := decide_eq_false h3
              cases bare with
              | true =>
                have HNN : Hid (N = 1) := Lib.hid (by rw [HN.out]; simp [*] <;> omega)
                clear HN
                go_enter Try.func13, Try.ntmps13
                go_wp2_with (go_at_call 20; ((with_reducible refine (HL.out _).mono ?_); rintro e w1 ⟨rfl, hb1⟩; obtain ⟨r0, rs, r2, rb, rz⟩ := HB.out _ rfl; replace r0 := (hb1.block _ (by rw [rz]; omega)).trans r0; replace r2 := (hb1.block _ (by rw [rz]; omega)).trans r2; replace rs := (hb1.block _ (by rw [rz]; omega)).trans rs; have rb1 := Lib.hid (rb.trans (hb1.mono rb.size)); have c0 := cofr r0 0 _ rfl; have c1 := cofr r0 1 _ rfl; have c2 := cofr r0 2 _ rfl; have d1' := cofr rs 1 _ rfl; have e0 := cofr r2 0 _ rfl; have e1 := cofr r2 1 _ rfl; have e2 := cofr r2 2 _ rfl; have f0 := fofr r2 0; have f1 := fofr r2 1; have f2 := fofr r2 2; have HR2 := Lib.hid r2; clear r0 r2 rb rs hb1 rz))
                have q := RbAt.put (p := Pb.off) HR2.out false false 0
                have q0 := cofr q 0 _ rfl
                have q1 := cofr q 1 _ rfl
                have q2 := cofr q 2 _ rfl
                exact bodyPost_ret (v := .tuple #[pbV Pb.off, .int .i64 1]) (by simp [results, Try.results13, go_sem, q0, q1, q2, Pb.off]) rfl ⟨by rw [HT1.out HNN.out (by decide)], kr3 rb1.out (by omega) _ _ _⟩
              | false =>
                have HNN : Hid (N = 0) := Lib.hid (by rw [HN.out]; simp [*] <;> omega)
                clear HN
                go_enter Try.func13, Try.ntmps13
                go_wp2_with (go_at_call 20; ((with_reducible refine (HL.out _).mono ?_); rintro e w1 ⟨rfl, hb1⟩; obtain ⟨r0, rs, r2, rb, rz⟩ := HB.out _ rfl; replace r0 := (hb1.block _ (by rw [rz]; omega)).trans r0; replace r2 := (hb1.block _ (by rw [rz]; omega)).trans r2; replace rs := (hb1.block _ (by rw [rz]; omega)).trans rs; have rb1 := Lib.hid (rb.trans (hb1.mono rb.size)); have c0 := cofr r0 0 _ rfl; have c1 := cofr r0 1 _ rfl; have c2 := cofr r0 2 _ rfl; have d1' := cofr rs 1 _ rfl; have e0 := cofr r2 0 _ rfl; have e1 := cofr r2 1 _ rfl; have e2 := cofr r2 2 _ rfl; have f0 := fofr r2 0; have f1 := fofr r2 1; have f2 := fofr r2 2; have HR2 := Lib.hid r2; clear r0 r2 rb rs hb1 rz))
                have q := RbAt.put (p := Pb.off) HR2.out true true fin
                have q0 := cofr q 0 _ rfl
                have q1 := cofr q 1 _ rfl
                have q2 := cofr q 2 _ rfl
                exact bodyPost_ret (v := .tuple #[pbV ⟨true, true, fin⟩, .int .i64 0]) (by simp [results, Try.results13, go_sem, q0, q1, q2, Pb.off]) rfl ⟨by rw [HT0.out HNN.out], kr3 rb1.out (by omega) _ _ _⟩
end Go.Proofs.Ytbmbibkomedooaa.pb
