/-
  Package probe: its questions.
-/
import Derived.Test.YtbmbibkomedooaaPrbW
import Derived.BigQuiet
namespace Go.Proofs.Ytbmbibkomedooaa.pb
open Go.RowKit aid mem sp
attribute [local go_sem ↓] Go.wp_at_zero Go.wp_at_succ
set_option linter.unusedVariables false

theorem cofr {w : World} {B : Nat} {cs : Array Value} {t : TypeId} (h : w.heap[B]? = some (.cells cs t (0, 0))) (i : Nat) (v : Value) (hv : cs[i]? = some v) : w.cell? ⟨B, i, none⟩ = some v := (cell_of_row w B i _ _ (0, 0) h).trans hv
theorem fofr {w : World} {B : Nat} {cs : Array Value} {t : TypeId} (h : w.heap[B]? = some (.cells cs t (0, 0))) (i : Nat) : w.frozen? ⟨B, i, none⟩ = false := by simp [World.frozen?, h]
theorem belN (w : World) (n : Nat) : Below w.heap.size w (w.drewN n) := ⟨rfl, rfl, rfl, Nat.le_refl _, fun _ _ => rfl⟩
/-- the probe, and the boxes of what is asked -/
structure AS (B n0 n1 n2 n3 n4 : Nat) (p : Pb) (ack : Int) (isDup : Bool) (d : Int × Int) (bare : Bool) (w : World) : Prop where
  p : PbAt w B p
  x0 : w.heap[n0]? = some (.cells #[.pointer (some ⟨B, 0, none⟩)] 44 (0, 0))
  x1 : w.heap[n1]? = some (.cells #[.int .i64 ack] 3 (0, 0))
  x2 : w.heap[n2]? = some (.cells #[.bool isDup] 4 (0, 0))
  x3 : SpAt w n3 d
  x4 : w.heap[n4]? = some (.cells #[.bool bare] 4 (0, 0))
section
variable {B n0 n1 n2 n3 n4 : Nat} {p : Pb} {ack : Int} {isDup : Bool} {d : Int × Int} {bare : Bool} {w w' : World} (h : AS B n0 n1 n2 n3 n4 p ack isDup d bare w)
include h
theorem AS.later (hb : Below w.heap.size w w') : AS B n0 n1 n2 n3 n4 p ack isDup d bare w' :=
  ⟨h.p.later hb, (hb.block _ (lt_of_block h.x0)).trans h.x0, (hb.block _ (lt_of_block h.x1)).trans h.x1, (hb.block _ (lt_of_block h.x2)).trans h.x2, h.x3.later hb, (hb.block _ (lt_of_block h.x4)).trans h.x4⟩
theorem AS.drew : AS B n0 n1 n2 n3 n4 p ack isDup d bare w.drew := ⟨h.p, h.x0, h.x1, h.x2, h.x3, h.x4⟩
theorem AS.y0 : w.cell? ⟨n0, 0, none⟩ = some (.pointer (some ⟨B, 0, none⟩)) := cofr h.x0 0 _ rfl
theorem AS.y1 : w.cell? ⟨n1, 0, none⟩ = some (.int .i64 ack) := cofr h.x1 0 _ rfl
theorem AS.y2 : w.cell? ⟨n2, 0, none⟩ = some (.bool isDup) := cofr h.x2 0 _ rfl
theorem AS.y4 : w.cell? ⟨n4, 0, none⟩ = some (.bool bare) := cofr h.x4 0 _ rfl
set_option maxHeartbeats 1000000 in
theorem ask5 : Calls Try.prog 28 #[.pointer (some ⟨n4, 0, none⟩)] w (RetB (qB p ack isDup d bare 4) w) := by
  have y := h.y4
  go_enter Try.func28, Try.ntmps28
  go_wp2
  go_ret
  exact ⟨rfl, Below.refl _ _⟩
theorem ask4 : Calls Try.prog 27 #[.pointer (some ⟨n1, 0, none⟩), .pointer (some ⟨n0, 0, none⟩)] w (RetB (qB p ack isDup d bare 3) w) := by
  have y := h.y1; have y0 := h.y0; have c2 := h.p.c2
  go_enter Try.func27, Try.ntmps27
  go_wp2_with fail
  go_quiet (fail)
  go_wp2
  go_ret
  exact ⟨rfl, belN _ _⟩
theorem ask3 : Calls Try.prog 26 #[.pointer (some ⟨n0, 0, none⟩)] w (RetB (qB p ack isDup d bare 2) w) := by
  have y0 := h.y0; have c1 := h.p.c1
  go_enter Try.func26, Try.ntmps26
  go_wp2
  go_ret
  exact ⟨rfl, Below.refl _ _⟩
theorem ask2 : Calls Try.prog 25 #[.pointer (some ⟨n1, 0, none⟩), .pointer (some ⟨n0, 0, none⟩)] w (RetB (qB p ack isDup d bare 1) w) := by
  have y := h.y1; have y0 := h.y0; have c2 := h.p.c2
  go_enter Try.func25, Try.ntmps25
  go_wp2_with fail
  go_quiet (fail)
  go_wp2
  go_ret
  exact ⟨rfl, belN _ _⟩
end
theorem ask1_off {B n0 n1 n2 n3 n4 : Nat} {p : Pb} {ack : Int} {isDup : Bool} {d : Int × Int} {bare : Bool} {w : World} (h : AS B n0 n1 n2 n3 n4 p ack isDup d bare w) (h0 : p.again = false ∨ isDup = false) : Calls Try.prog 23 #[.pointer (some ⟨n0, 0, none⟩), .pointer (some ⟨n2, 0, none⟩), .pointer (some ⟨n3, 0, none⟩)] w (RetB (qB p ack isDup d bare 0) w) := by
  have y0 := h.y0; have c1 := h.p.c1; have c2 := h.p.c2; have y2 := h.y2; have e0 := h.x3.c0; have e1 := h.x3.c1
  have HQ := Lib.hid (show qB p ack isDup d bare 0 = false from by unfold qB; rcases h0 with h0 | h0 <;> simp [h0])
  rw [HQ.out]
  clear HQ h
  obtain ⟨on, again, fin⟩ := p
  dsimp only at *
  cases again with
  | false =>
    clear h0
    go_enter Try.func23, Try.ntmps23
    go_wp2_with fail
    go_quiet (fail)
    go_wp2
    go_ret
    exact ⟨rfl, belN _ _⟩
  | true =>
    cases isDup with
    | true => simp at h0
    | false =>
      clear h0
      go_enter Try.func23, Try.ntmps23
      go_wp2_with fail
      go_quiet (fail)
      go_wp2
      go_ret
      exact ⟨rfl, belN _ _⟩

theorem AS.all {B n0 n1 n2 n3 n4 : Nat} {on : Bool} {fin : Int} {ack : Int} {d1 d2 : Int} {bare : Bool} {w : World} (h : AS B n0 n1 n2 n3 n4 ⟨on, true, fin⟩ ack true (d1, d2) bare w) : w.cell? ⟨n0, 0, none⟩ = some (.pointer (some ⟨B, 0, none⟩)) ∧ w.cell? ⟨B, 1, none⟩ = some (.bool true) ∧ w.cell? ⟨B, 2, none⟩ = some (.int .i64 fin) ∧ w.cell? ⟨n2, 0, none⟩ = some (.bool true) ∧ w.cell? ⟨n3, 0, none⟩ = some (.int .i64 d1) ∧ w.cell? ⟨n3, 1, none⟩ = some (.int .i64 d2) :=
  ⟨h.y0, h.p.c1, h.p.c2, h.y2, h.x3.c0, h.x3.c1⟩
set_option maxHeartbeats 1000000 in
theorem ask1_on {B n0 n1 n2 n3 n4 : Nat} {on : Bool} {fin : Int} {ack : Int} {d1 d2 : Int} {bare : Bool} {w : World} (h : AS B n0 n1 n2 n3 n4 ⟨on, true, fin⟩ ack true (d1, d2) bare w) : Calls Try.prog 23 #[.pointer (some ⟨n0, 0, none⟩), .pointer (some ⟨n2, 0, none⟩), .pointer (some ⟨n3, 0, none⟩)] w (RetB (decide (0 < lenI (d1, d2)) && decide (d2 = fin)) w) := by
  have HL := Lib.hid (fun W => len_any (d1, d2) W)
  generalize lenI (d1, d2) = n at *
  by_cases hn : 0 < n
  · have HD := Lib.hid (show (decide (0 < n) && decide (d2 = fin)) = decide (d2 = fin) from by rw [decide_eq_true hn]; rfl)
    rw [HD.out]
    clear HD
    go_enter Try.func23, Try.ntmps23
    go_wp2_with fail
    have hb : Below w.heap.size w w.drew := (Below.refl _ _).drew
    have S := h.drew
    clear h
    go_region_held3 (fun w' => w'.cell? ⟨n0, 0, none⟩ = some (.pointer (some ⟨B, 0, none⟩)) ∧ w'.cell? ⟨B, 1, none⟩ = some (.bool true) ∧ w'.cell? ⟨B, 2, none⟩ = some (.int .i64 fin) ∧ w'.cell? ⟨n2, 0, none⟩ = some (.bool true) ∧ w'.cell? ⟨n3, 0, none⟩ = some (.int .i64 d1) ∧ w'.cell? ⟨n3, 1, none⟩ = some (.int .i64 d2)) (first | with_reducible exact S.all | go_keep)
      ((go_at_call 24; (with_reducible refine (HL.out _).mono ?_); rintro x w1 ⟨rfl, hb1⟩; replace hb := hb.trans (hb1.mono hb.size); replace S := S.later hb1))
    go_wp2
    go_ret
    exact ⟨rfl, hb⟩
  · have HD := Lib.hid (show (decide (0 < n) && decide (d2 = fin)) = false from by rw [decide_eq_false hn]; rfl)
    rw [HD.out]
    have hn' : decide (0 < n) = false := decide_eq_false hn
    clear HD
    go_enter Try.func23, Try.ntmps23
    go_wp2_with fail
    have hb : Below w.heap.size w w.drew := (Below.refl _ _).drew
    have S := h.drew
    clear h
    -- region
    refine wp_region_noPanic ?_
    refine wp_region_held_drew (S := (fun w' => w'.cell? ⟨n0, 0, none⟩ = some (.pointer (some ⟨B, 0, none⟩)) ∧ w'.cell? ⟨B, 1, none⟩ = some (.bool true) ∧ w'.cell? ⟨B, 2, none⟩ = some (.int .i64 fin) ∧ w'.cell? ⟨n2, 0, none⟩ = some (.bool true) ∧ w'.cell? ⟨n3, 0, none⟩ = some (.int .i64 d1) ∧ w'.cell? ⟨n3, 1, none⟩ = some (.int .i64 d2))) (by kernel_rfl) ?_ (fun hHeld => ?_)
    · ((try dsimp only); first | with_reducible exact S.all | go_keep)
    refine wpAnyH_take (i := 0) (oi := _) (v := ?_) rfl (by kernel_rfl) (by kernel_rfl) (by kernel_rfl) (fun _ _ _ h => h) (Or.inl ⟨by rfl, ?_⟩) (by assumption) ?_
    rotate_left
    · (first | (intro v hSw; (try dsimp only at hSw); go_simp; done) | (intro v hSw; (try dsimp only at hSw); go_simp; with_reducible rfl))
    (try simp only [List.getElem_toArray, List.getElem_cons_succ, List.getElem_cons_zero, Act.put, List.setIfInBounds_toArray, List.set_cons_zero, List.set_cons_succ])
    refine wpAnyH_take (i := 1) (oi := _) (v := ?_) rfl (by kernel_rfl) (by kernel_rfl) (by kernel_rfl) (fun _ _ _ h => h) (Or.inl ⟨by rfl, ?_⟩) (by assumption) ?_
    rotate_left
    · (first | (intro v hSw; (try dsimp only at hSw); go_simp; done) | (intro v hSw; (try dsimp only at hSw); go_simp; with_reducible rfl))
    (try simp only [List.getElem_toArray, List.getElem_cons_succ, List.getElem_cons_zero, Act.put, List.setIfInBounds_toArray, List.set_cons_zero, List.set_cons_succ])
    refine wpAnyH_take (i := 2) (oi := _) (v := ?_) rfl (by kernel_rfl) (by kernel_rfl) (by kernel_rfl) (fun _ _ _ h => h) (Or.inl ⟨by rfl, ?_⟩) (by assumption) ?_
    rotate_left
    · (first | (intro v hSw; (try dsimp only at hSw); go_simp; done) | (intro v hSw; (try dsimp only at hSw); go_simp; with_reducible rfl))
    (try simp only [List.getElem_toArray, List.getElem_cons_succ, List.getElem_cons_zero, Act.put, List.setIfInBounds_toArray, List.set_cons_zero, List.set_cons_succ])
    refine wpAnyH_take (i := 3) (oi := _) (v := ?_) rfl (by kernel_rfl) (by kernel_rfl) (by kernel_rfl) (fun _ _ _ h => h) (Or.inl ⟨by rfl, ?_⟩) (by assumption) ?_
    rotate_left
    · (first | (intro v hSw; (try dsimp only at hSw); go_simp; done) | (intro v hSw; (try dsimp only at hSw); go_simp; with_reducible rfl))
    (try simp only [List.getElem_toArray, List.getElem_cons_succ, List.getElem_cons_zero, Act.put, List.setIfInBounds_toArray, List.set_cons_zero, List.set_cons_succ])
    refine wpAnyH_take (i := 4) (oi := _) (v := ?_) rfl (by kernel_rfl) (by kernel_rfl) (by kernel_rfl) (fun _ _ _ h => h) (Or.inl ⟨by rfl, ?_⟩) (by assumption) ?_
    rotate_left
    · (first | (intro v hSw; (try dsimp only at hSw); go_simp; done) | (intro v hSw; (try dsimp only at hSw); go_simp; with_reducible rfl))
    (try simp only [List.getElem_toArray, List.getElem_cons_succ, List.getElem_cons_zero, Act.put, List.setIfInBounds_toArray, List.set_cons_zero, List.set_cons_succ])
    refine wpAnyH_take (i := 5) (oi := _) (v := ?_) rfl (by kernel_rfl) (by kernel_rfl) (by kernel_rfl) (fun _ _ _ h => h) (Or.inl ⟨by rfl, ?_⟩) (by assumption) ?_
    rotate_left
    · (first | (intro v hSw; (try dsimp only at hSw); go_simp; done) | (intro v hSw; (try dsimp only at hSw); go_simp; with_reducible rfl))
    (try simp only [List.getElem_toArray, List.getElem_cons_succ, List.getElem_cons_zero, Act.put, List.setIfInBounds_toArray, List.set_cons_zero, List.set_cons_succ])
    refine wpAnyH_take (i := 6) (oi := _) (v := ?_) rfl (by kernel_rfl) (by kernel_rfl) (by kernel_rfl) (fun _ _ _ h => h) (Or.inl ⟨by rfl, ?_⟩) (by assumption) ?_
    rotate_left
    · (first | (intro v hSw; (try dsimp only at hSw); go_simp; done) | (intro v hSw; (try dsimp only at hSw); go_simp; with_reducible rfl))
    (try simp only [List.getElem_toArray, List.getElem_cons_succ, List.getElem_cons_zero, Act.put, List.setIfInBounds_toArray, List.set_cons_zero, List.set_cons_succ])
    refine wpAnyH_take (i := 7) (oi := _) (v := ?_) rfl (by kernel_rfl) (by kernel_rfl) (by kernel_rfl) (fun _ _ _ h => h) (Or.inl ⟨by rfl, ?_⟩) (by assumption) ?_
    rotate_left
    · (first | (intro v hSw; (try dsimp only at hSw); go_simp; done) | (intro v hSw; (try dsimp only at hSw); go_simp; with_reducible rfl))
    (try simp only [List.getElem_toArray, List.getElem_cons_succ, List.getElem_cons_zero, Act.put, List.setIfInBounds_toArray, List.set_cons_zero, List.set_cons_succ])
    refine wpAnyH_take (i := 8) (oi := _) (v := ?_) rfl (by kernel_rfl) (by kernel_rfl) (by kernel_rfl) (fun _ _ _ h => h) (Or.inl ⟨by rfl, ?_⟩) (by assumption) ?_
    rotate_left
    · (first | (intro v hSw; (try dsimp only at hSw); go_simp; done) | (intro v hSw; (try dsimp only at hSw); go_simp; with_reducible rfl))
    (try simp only [List.getElem_toArray, List.getElem_cons_succ, List.getElem_cons_zero, Act.put, List.setIfInBounds_toArray, List.set_cons_zero, List.set_cons_succ])
    refine wpAnyH_ready (rs := [9]) (by kernel_rfl) (by simp) ?_
    refine AllReadyH.cons (o := _) rfl (fun K hK => ?_) AllReadyH.nil
    go_simp
    go_at_call 24
    (with_reducible refine (HL.out _).mono ?_)
    rintro x w1 ⟨rfl, hb1⟩
    replace hb := hb.trans (hb1.mono hb.size)
    replace S := S.later hb1
    refine hK.out _ _ ?_ (fun hHeld => ?_)
    · ((try dsimp only); first | with_reducible exact S.all | go_keep)
    clear hK K
    (try simp only [List.getElem_toArray, List.getElem_cons_succ, List.getElem_cons_zero, Act.put, List.setIfInBounds_toArray, List.set_cons_zero, List.set_cons_succ])
    refine wpAnyH_take (i := 10) (oi := _) (v := ?_) rfl (by kernel_rfl) (by kernel_rfl) (by kernel_rfl) (fun _ _ _ h => h) (Or.inl ⟨by rfl, ?_⟩) (by assumption) ?_
    rotate_left
    · (first | (intro v hSw; (try dsimp only at hSw); go_simp; done) | (intro v hSw; (try dsimp only at hSw); go_simp; with_reducible rfl))
    (try simp only [List.getElem_toArray, List.getElem_cons_succ, List.getElem_cons_zero, Act.put, List.setIfInBounds_toArray, List.set_cons_zero, List.set_cons_succ])
    refine wpAnyH_take (i := 11) (oi := _) (v := ?_) rfl (by kernel_rfl) (by kernel_rfl) (by kernel_rfl) (fun _ _ _ h => h) (Or.inl ⟨by rfl, ?_⟩) (by assumption) ?_
    rotate_left
    · (first | (intro v hSw; (try dsimp only at hSw); go_simp; done) | (intro v hSw; (try dsimp only at hSw); go_simp; with_reducible rfl))
    (try simp only [List.getElem_toArray, List.getElem_cons_succ, List.getElem_cons_zero, Act.put, List.setIfInBounds_toArray, List.set_cons_zero, List.set_cons_succ])
    refine wpAnyH_take (i := 12) (oi := _) (v := ?_) rfl (by kernel_rfl) (by kernel_rfl) (by kernel_rfl) (fun _ _ _ h => h) (Or.inl ⟨by rfl, ?_⟩) (by assumption) ?_
    rotate_left
    · (first | (intro v hSw; (try dsimp only at hSw); go_simp; done) | (intro v hSw; (try dsimp only at hSw); go_simp; with_reducible rfl))
    (try simp only [List.getElem_toArray, List.getElem_cons_succ, List.getElem_cons_zero, Act.put, List.setIfInBounds_toArray, List.set_cons_zero, List.set_cons_succ])
    refine wpAnyH_take (i := 13) (oi := _) (v := undef) rfl (by kernel_rfl) (by kernel_rfl) (by kernel_rfl) (fun _ _ _ h => h) (Or.inr ⟨by rfl, rfl⟩) (by assumption) ?_
    (try simp only [List.getElem_toArray, List.getElem_cons_succ, List.getElem_cons_zero, Act.put, List.setIfInBounds_toArray, List.set_cons_zero, List.set_cons_succ])
    refine wpAnyH_take (i := 14) (oi := _) (v := undef) rfl (by kernel_rfl) (by kernel_rfl) (by kernel_rfl) (fun _ _ _ h => h) (Or.inr ⟨by rfl, rfl⟩) (by assumption) ?_
    (try simp only [List.getElem_toArray, List.getElem_cons_succ, List.getElem_cons_zero, Act.put, List.setIfInBounds_toArray, List.set_cons_zero, List.set_cons_succ])
    refine wpAnyH_take (i := 15) (oi := _) (v := undef) rfl (by kernel_rfl) (by kernel_rfl) (by kernel_rfl) (fun _ _ _ h => h) (Or.inr ⟨by rfl, rfl⟩) (by assumption) ?_
    (try simp only [List.getElem_toArray, List.getElem_cons_succ, List.getElem_cons_zero, Act.put, List.setIfInBounds_toArray, List.set_cons_zero, List.set_cons_succ])
    refine wpAnyH_take (i := 16) (oi := _) (v := undef) rfl (by kernel_rfl) (by kernel_rfl) (by kernel_rfl) (fun _ _ _ h => h) (Or.inr ⟨by rfl, rfl⟩) (by assumption) ?_
    (try simp only [List.getElem_toArray, List.getElem_cons_succ, List.getElem_cons_zero, Act.put, List.setIfInBounds_toArray, List.set_cons_zero, List.set_cons_succ])
    refine wpAnyH_take (i := 17) (oi := _) (v := undef) rfl (by kernel_rfl) (by kernel_rfl) (by kernel_rfl) (fun _ _ _ h => h) (Or.inr ⟨by rfl, rfl⟩) (by assumption) ?_
    (try simp only [List.getElem_toArray, List.getElem_cons_succ, List.getElem_cons_zero, Act.put, List.setIfInBounds_toArray, List.set_cons_zero, List.set_cons_succ])
    refine wpAnyH_take (i := 18) (oi := _) (v := undef) rfl (by kernel_rfl) (by kernel_rfl) (by kernel_rfl) (fun _ _ _ h => h) (Or.inr ⟨by rfl, rfl⟩) (by assumption) ?_
    (try simp only [List.getElem_toArray, List.getElem_cons_succ, List.getElem_cons_zero, Act.put, List.setIfInBounds_toArray, List.set_cons_zero, List.set_cons_succ])
    refine wpAnyH_take (i := 19) (oi := _) (v := undef) rfl (by kernel_rfl) (by kernel_rfl) (by kernel_rfl) (fun _ _ _ h => h) (Or.inr ⟨by rfl, rfl⟩) (by assumption) ?_
    (try simp only [List.getElem_toArray, List.getElem_cons_succ, List.getElem_cons_zero, Act.put, List.setIfInBounds_toArray, List.set_cons_zero, List.set_cons_succ])
    refine wpAnyH_take (i := 20) (oi := _) (v := ?_) rfl (by kernel_rfl) (by kernel_rfl) (by kernel_rfl) (fun _ _ _ h => h) (Or.inl ⟨by rfl, ?_⟩) (by assumption) ?_
    rotate_left
    · (first | (intro v hSw; (try dsimp only at hSw); go_simp; done) | (intro v hSw; (try dsimp only at hSw); go_simp; with_reducible rfl))
    (try simp only [List.getElem_toArray, List.getElem_cons_succ, List.getElem_cons_zero, Act.put, List.setIfInBounds_toArray, List.set_cons_zero, List.set_cons_succ])
    refine wpAnyH_take (i := 21) (oi := _) (v := ?_) rfl (by kernel_rfl) (by kernel_rfl) (by kernel_rfl) (fun _ _ _ h => h) (Or.inl ⟨by rfl, ?_⟩) (by assumption) ?_
    rotate_left
    · (first | (intro v hSw; (try dsimp only at hSw); go_simp; done) | (intro v hSw; (try dsimp only at hSw); go_simp; with_reducible rfl))
    (try simp only [List.getElem_toArray, List.getElem_cons_succ, List.getElem_cons_zero, Act.put, List.setIfInBounds_toArray, List.set_cons_zero, List.set_cons_succ])
    refine wpAnyH_done (by kernel_rfl) ?_ _
    refine NoPanic.normal ?_
    -- region end
    go_wp2
    go_ret
    exact ⟨rfl, hb⟩
end Go.Proofs.Ytbmbibkomedooaa.pb
