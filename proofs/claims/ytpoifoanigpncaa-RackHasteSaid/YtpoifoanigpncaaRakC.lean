/-
  Package rack: Came.
-/
import Derived.Test.YtpoifoanigpncaaRakB
namespace Go.Proofs.Ytpoifoanigpncaa.rk
open Go.RowKit aid mem bk
attribute [local go_sem ↓] Go.wp_at_zero Go.wp_at_succ
set_option linter.unusedVariables false
set_option linter.unusedSimpArgs false

abbrev boxE (told : Bool) (val : Int) : Obj := .cells #[.bool told, .int .u32 val] 29
/-- rack's, a record's box, an echo's box -/
structure Cm (w0 : World) (X b c : Nat) (x : Rk) (r : Rc) (told : Bool) (val : Int) (w : World) : Prop where
  x : RkAt w X x
  bb : w.heap[b]? = some (boxR r)
  cc : w.heap[c]? = some (boxE told val)
  xb : X ≠ b
  xc : X ≠ c
  kept : Kept [X] w0 w
section
variable {w0 w w' : World} {X b c : Nat} {x : Rk} {r : Rc} {told : Bool} {val : Int} (h : Cm w0 X b c x r told val w)
include h
theorem Cm.later (hb : Below w.heap.size w w') : Cm w0 X b c x r told val w' :=
  ⟨h.x.later hb, (hb.block _ (lt_of_block h.bb)).trans h.bb, (hb.block _ (lt_of_block h.cc)).trans h.cc, h.xb, h.xc, h.kept.trans (Kept.of_below hb (Nat.le_refl _) []) (by simp)⟩
theorem Cm.wrote {x' : Rk} (hx : RkAt w' X x') (hk : Kept [X] w w') : Cm w0 X b c x' r told val w' :=
  ⟨hx, hk.heap (by simpa using h.xb.symm) h.bb, hk.heap (by simpa using h.xc.symm) h.cc, h.xb, h.xc, h.kept.trans hk (by simp)⟩
theorem Cm.drewN (n : Nat) : Cm w0 X b c x r told val (w.drewN n) := h.later (belN w n)
theorem Cm.bs : w.cell? ⟨b, 0, none⟩ = some (.int .i64 r.f) ∧ w.cell? ⟨b, 1, none⟩ = some (.int .i64 r.t) ∧ w.cell? ⟨b, 2, none⟩ = some (.int .i64 r.sent) ∧ w.cell? ⟨b, 3, none⟩ = some (.int .i64 r.order) ∧ w.cell? ⟨b, 4, none⟩ = some (.int .i64 r.times) ∧ w.cell? ⟨b, 5, none⟩ = some (.int .i64 r.out) ∧ w.cell? ⟨b, 6, none⟩ = some (.bool r.lost) := box_cs h.bb
theorem Cm.es : w.cell? ⟨c, 0, none⟩ = some (.bool told) ∧ w.cell? ⟨c, 1, none⟩ = some (.int .u32 val) := ⟨cofr h.cc 0 _ rfl, cofr h.cc 1 _ rfl⟩
end
theorem cm_new {w : World} {X : Nat} {x : Rk} (h : RkAt w X x) (r : Rc) (told : Bool) (val : Int) : Cm w X w.heap.size (w.heap.size + 1) x r told val ((w.alloc (boxR r)).alloc (boxE told val)) := by
  have b1 := al w (boxR r)
  have y1 := heap_alloc_new w (boxR r)
  have z1 : (w.alloc (boxR r)).heap.size = w.heap.size + 1 := by simp
  have hX := h.lt
  have h1 := h.later b1
  generalize w.alloc (boxR r) = w1 at *
  have b2 := al w1 (boxE told val)
  have y2 := heap_alloc_new w1 (boxE told val)
  rw [z1] at y2
  exact ⟨h1.later b2, (b2.block _ (lt_of_block y1)).trans y1, y2, by omega, by omega, Kept.of_below (b1.trans (b2.mono b1.size)) (Nat.le_refl _) _⟩
set_option maxRecDepth 100000 in
set_option maxHeartbeats 4000000 in
theorem came_any {w : World} {X : Nat} {x : Rk} (h : RkAt w X x) (r : Rc) {now least : Int} {has told : Bool} {val : Int} (hv : 0 ≤ val ∧ val ≤ 4294967295) (hs : 0 ≤ r.sent ∧ r.sent ≤ 4611686018427387904) (hn : 0 ≤ now ∧ now ≤ 4611686018427387904) :
    Calls Try.prog 19 #[.pointer (some ⟨X, 0, none⟩), rcV r, .int .i64 now, .int .i64 least, .bool has, ecV told val] w fun e w' => e = .returned (.bool (cameB x r now least has told val)) ∧ RkAt w' X (came x r now least has told val) ∧ Kept [X] w w' := by
  have HC := Lib.hid (cm_new h r told val)
  obtain ⟨n0, n1⟩ := hn
  obtain ⟨s0, s1⟩ := hs
  clear h
  by_cases h1 : now < r.sent
  · have HB : Hid (cameB x r now least has told val = false ∧ came x r now least has told val = rch x r) := Lib.hid (by unfold came cameB; simp [h1])
    rw [HB.out.1, HB.out.2]
    clear HB
    have h1b := decide_eq_true h1
    go_enter Try.func19, Try.ntmps19
    obtain ⟨b0, b1, b2, b3, b4, b5, b6⟩ := HC.out.bs
    go_wp2_with (go_at_call 43; go_must ((with_reducible refine (reach_any HC.out.x r).mono ?_); rintro e w2 ⟨⟨v, rfl⟩, x2, k2⟩; have C2 := HC.out.wrote x2 k2; clear HC x2 k2 b0 b1 b2 b3 b4 b5 b6; obtain ⟨b0, b1, b2, b3, b4, b5, b6⟩ := C2.bs))
    go_ret
    exact ⟨rfl, C2.x, C2.kept⟩
  · have h1b := decide_eq_false h1
    have h1' : r.sent ≤ now := by omega
    have HA := Lib.hid (ahead_any told hv (s := r.sent) ⟨by omega, by omega⟩)
    have HSI := Lib.hid (since_eq (s := r.sent) (n := now) ⟨s0, s1⟩ ⟨h1', n1⟩)
    by_cases hT : 1 < r.times
    · have hTb := decide_eq_true hT
      cases hab : aheadB told val r.sent with
      | true =>
        have HU : Hid (cameB x r now least has told val = false ∧ came x r now least has told val = rch x r) := Lib.hid (by unfold came cameB unsure; simp [h1, hT, hab])
        rw [HU.out.1, HU.out.2]
        have HAB := Lib.hid hab
        clear HU hab hT
        go_enter Try.func19, Try.ntmps19
        obtain ⟨b0, b1, b2, b3, b4, b5, b6⟩ := HC.out.bs
        obtain ⟨e0, e1⟩ := HC.out.es
        go_wp2_with (first | (go_at_call 43; ((with_reducible refine (reach_any HC.out.x r).mono ?_); rintro e w2 ⟨⟨v, rfl⟩, x2, k2⟩; have C2 := HC.out.wrote x2 k2; clear HC x2 k2 b0 b1 b2 b3 b4 b5 b6 e0 e1; obtain ⟨b0, b1, b2, b3, b4, b5, b6⟩ := C2.bs; obtain ⟨e0, e1⟩ := C2.es)) | (go_at_call 44; (with_reducible refine (HSI.out _).mono ?_); rintro e w3 ⟨rfl, rfl⟩) | (go_at_call 45; (with_reducible refine (HA.out _).mono ?_); rintro e w4 ⟨rfl, hb4⟩; replace C2 := C2.later hb4; clear hb4 b0 b1 b2 b3 b4 b5 b6 e0 e1; obtain ⟨b0, b1, b2, b3, b4, b5, b6⟩ := C2.bs; obtain ⟨e0, e1⟩ := C2.es; rw [HAB.out]))
        obtain ⟨c0, c1, c2, c3, c4, c5, c6, c7⟩ := C2.x.cs
        have HC2 := Lib.hid C2
        clear C2
        go_quiet (fail)
        go_wp2_with fail
        go_ret
        exact ⟨rfl, (HC2.out.drewN nq).x, (HC2.out.drewN nq).kept⟩
      | false =>
        have HAB := Lib.hid hab
        cases has with
        | false =>
          have HU : Hid (cameB x r now least false told val = false ∧ came x r now least false told val = rch x r) := Lib.hid (by unfold came cameB unsure; simp [h1, hT])
          rw [HU.out.1, HU.out.2]
          clear HU hab hT
          go_enter Try.func19, Try.ntmps19
          obtain ⟨b0, b1, b2, b3, b4, b5, b6⟩ := HC.out.bs
          obtain ⟨e0, e1⟩ := HC.out.es
          go_wp2_with (first | (go_at_call 43; ((with_reducible refine (reach_any HC.out.x r).mono ?_); rintro e w2 ⟨⟨v, rfl⟩, x2, k2⟩; have C2 := HC.out.wrote x2 k2; clear HC x2 k2 b0 b1 b2 b3 b4 b5 b6 e0 e1; obtain ⟨b0, b1, b2, b3, b4, b5, b6⟩ := C2.bs; obtain ⟨e0, e1⟩ := C2.es)) | (go_at_call 44; (with_reducible refine (HSI.out _).mono ?_); rintro e w3 ⟨rfl, rfl⟩) | (go_at_call 45; (with_reducible refine (HA.out _).mono ?_); rintro e w4 ⟨rfl, hb4⟩; replace C2 := C2.later hb4; clear hb4 b0 b1 b2 b3 b4 b5 b6 e0 e1; obtain ⟨b0, b1, b2, b3, b4, b5, b6⟩ := C2.bs; obtain ⟨e0, e1⟩ := C2.es; rw [HAB.out]))
          obtain ⟨c0, c1, c2, c3, c4, c5, c6, c7⟩ := C2.x.cs
          have HC2 := Lib.hid C2
          clear C2
          go_quiet (fail)
          go_wp2_with fail
          go_ret
          exact ⟨rfl, (HC2.out.drewN nq).x, (HC2.out.drewN nq).kept⟩
        | true =>
          by_cases hl : now - r.sent < least
          · have hlb := decide_eq_true hl
            have HU : Hid (cameB x r now least true told val = false ∧ came x r now least true told val = rch x r) := Lib.hid (by unfold came cameB unsure; simp [h1, hT, hl])
            rw [HU.out.1, HU.out.2]
            clear HU hab hT
            go_enter Try.func19, Try.ntmps19
            obtain ⟨b0, b1, b2, b3, b4, b5, b6⟩ := HC.out.bs
            obtain ⟨e0, e1⟩ := HC.out.es
            go_wp2_with (first | (go_at_call 43; ((with_reducible refine (reach_any HC.out.x r).mono ?_); rintro e w2 ⟨⟨v, rfl⟩, x2, k2⟩; have C2 := HC.out.wrote x2 k2; clear HC x2 k2 b0 b1 b2 b3 b4 b5 b6 e0 e1; obtain ⟨b0, b1, b2, b3, b4, b5, b6⟩ := C2.bs; obtain ⟨e0, e1⟩ := C2.es)) | (go_at_call 44; (with_reducible refine (HSI.out _).mono ?_); rintro e w3 ⟨rfl, rfl⟩) | (go_at_call 45; (with_reducible refine (HA.out _).mono ?_); rintro e w4 ⟨rfl, hb4⟩; replace C2 := C2.later hb4; clear hb4 b0 b1 b2 b3 b4 b5 b6 e0 e1; obtain ⟨b0, b1, b2, b3, b4, b5, b6⟩ := C2.bs; obtain ⟨e0, e1⟩ := C2.es; rw [HAB.out]))
            obtain ⟨c0, c1, c2, c3, c4, c5, c6, c7⟩ := C2.x.cs
            have HC2 := Lib.hid C2
            clear C2
            go_quiet (fail)
            go_wp2_with fail
            go_ret
            exact ⟨rfl, (HC2.out.drewN nq).x, (HC2.out.drewN nq).kept⟩
          · have hlb := decide_eq_false hl
            by_cases ho : r.order ≤ x.order
            · have hob : decide (r.order ≤ (rch x r).order) = true := decide_eq_true ho
              have HU : Hid (cameB x r now least true told val = false ∧ came x r now least true told val = rch x r) := Lib.hid (by unfold came cameB unsure; simp [ho])
              rw [HU.out.1, HU.out.2]
              clear HU hab hT
              go_enter Try.func19, Try.ntmps19
              obtain ⟨b0, b1, b2, b3, b4, b5, b6⟩ := HC.out.bs
              obtain ⟨e0, e1⟩ := HC.out.es
              go_wp2_with (first | (go_at_call 43; ((with_reducible refine (reach_any HC.out.x r).mono ?_); rintro e w2 ⟨⟨v, rfl⟩, x2, k2⟩; have C2 := HC.out.wrote x2 k2; clear HC x2 k2 b0 b1 b2 b3 b4 b5 b6 e0 e1; obtain ⟨b0, b1, b2, b3, b4, b5, b6⟩ := C2.bs; obtain ⟨e0, e1⟩ := C2.es)) | (go_at_call 44; (with_reducible refine (HSI.out _).mono ?_); rintro e w3 ⟨rfl, rfl⟩) | (go_at_call 45; (with_reducible refine (HA.out _).mono ?_); rintro e w4 ⟨rfl, hb4⟩; replace C2 := C2.later hb4; clear hb4 b0 b1 b2 b3 b4 b5 b6 e0 e1; obtain ⟨b0, b1, b2, b3, b4, b5, b6⟩ := C2.bs; obtain ⟨e0, e1⟩ := C2.es; rw [HAB.out]))
              obtain ⟨c0, c1, c2, c3, c4, c5, c6, c7⟩ := C2.x.cs
              have HC2 := Lib.hid C2
              clear C2
              go_quiet (fail)
              go_wp2_with fail
              go_ret
              exact ⟨rfl, (HC2.out.drewN nq).x, (HC2.out.drewN nq).kept⟩
            · have hob : decide (r.order ≤ (rch x r).order) = false := decide_eq_false ho
              have HU : Hid (cameB x r now least true told val = true ∧ came x r now least true told val = ⟨x.floor, now - r.sent, r.order, (rch x r).fin, (rch x r).mixed, x.mult, x.round, x.rest⟩) := Lib.hid (by have e : cameB x r now least true told val = true := (by unfold cameB unsure; simp [h1, hl, ho, hab]); unfold came; rw [if_pos e]; exact ⟨e, rfl⟩)
              rw [HU.out.1, HU.out.2]
              clear HU hab hT
              go_enter Try.func19, Try.ntmps19
              obtain ⟨b0, b1, b2, b3, b4, b5, b6⟩ := HC.out.bs
              obtain ⟨e0, e1⟩ := HC.out.es
              go_wp2_with (first | (go_at_call 43; ((with_reducible refine (reach_any HC.out.x r).mono ?_); rintro e w2 ⟨⟨v, rfl⟩, x2, k2⟩; have C2 := HC.out.wrote x2 k2; clear HC x2 k2 b0 b1 b2 b3 b4 b5 b6 e0 e1; obtain ⟨b0, b1, b2, b3, b4, b5, b6⟩ := C2.bs; obtain ⟨e0, e1⟩ := C2.es)) | (go_at_call 44; (with_reducible refine (HSI.out _).mono ?_); rintro e w3 ⟨rfl, rfl⟩) | (go_at_call 45; (with_reducible refine (HA.out _).mono ?_); rintro e w4 ⟨rfl, hb4⟩; replace C2 := C2.later hb4; clear hb4 b0 b1 b2 b3 b4 b5 b6 e0 e1; obtain ⟨b0, b1, b2, b3, b4, b5, b6⟩ := C2.bs; obtain ⟨e0, e1⟩ := C2.es; rw [HAB.out]))
              obtain ⟨c0, c1, c2, c3, c4, c5, c6, c7⟩ := C2.x.cs
              have HC2 := Lib.hid C2
              clear C2
              go_quiet (fail)
              go_wp2_with fail
              have C3 := HC2.out.drewN nq
              clear HC2 b0 b1 b2 b3 b4 b5 b6 e0 e1 c0 c1 c2 c3 c4 c5 c6 c7
              obtain ⟨b0, b1, b2, b3, b4, b5, b6⟩ := C3.bs
              obtain ⟨c0, c1, c2, c3, c4, c5, c6, c7⟩ := C3.x.cs
              have f1 := C3.x.f 1; have f2 := C3.x.f 2
              have HC3 := Lib.hid C3
              clear C3
              generalize (World.drewN _ nq) = W at *
              have HB3 := Lib.hid (show W.drew.cell? ⟨w.heap.size, 3, none⟩ = some (.int .i64 r.order) from b3)
              -- region
              refine wp_region_noPanic ?_
              refine wp_region_held_drew (S := (fun w' => w'.cell? ⟨w.heap.size, 3, none⟩ = some (.int .i64 r.order))) (by kernel_rfl) ?_ (fun hHeld => ?_)
              · ((try dsimp only); first | exact HB3.out)
              refine wpAnyH_take (i := 0) (oi := _) (v := ?_) rfl (by kernel_rfl) (by kernel_rfl) (by kernel_rfl) (fun _ _ _ h => h) (Or.inl ⟨by rfl, ?_⟩) (by assumption) ?_
              rotate_left
              · (first | (intro v hSw; (try dsimp only at hSw); go_simp; done) | (intro v hSw; (try dsimp only at hSw); go_simp; with_reducible rfl))
              (try simp only [List.getElem_toArray, List.getElem_cons_succ, List.getElem_cons_zero, Act.put, List.setIfInBounds_toArray, List.set_cons_zero, List.set_cons_succ])
              refine wpAnyH_take (i := 1) (oi := _) (v := ?_) rfl (by kernel_rfl) (by kernel_rfl) (by kernel_rfl) (fun _ _ _ h => h) (Or.inl ⟨by rfl, ?_⟩) (by assumption) ?_
              rotate_left
              · (first | (intro v hSw; (try dsimp only at hSw); go_simp; done) | (intro v hSw; (try dsimp only at hSw); go_simp; with_reducible rfl))
              (try simp only [List.getElem_toArray, List.getElem_cons_succ, List.getElem_cons_zero, Act.put, List.setIfInBounds_toArray, List.set_cons_zero, List.set_cons_succ])
              refine wpAnyH_take (i := 2) (oi := _) (v := ?_) rfl (by kernel_rfl) (by kernel_rfl) (by kernel_rfl) (fun _ _ _ h => h) (Or.inl ⟨by rfl, ?_⟩) (by assumption) ?_
              rotate_left
              · (first | (intro v hSw; (try dsimp only at hSw); go_simp; done) | (intro v hSw; (try dsimp only at hSw); go_simp; with_reducible rfl))
              (try simp only [List.getElem_toArray, List.getElem_cons_succ, List.getElem_cons_zero, Act.put, List.setIfInBounds_toArray, List.set_cons_zero, List.set_cons_succ])
              refine wpAnyH_take (i := 3) (oi := _) (v := ?_) rfl (by kernel_rfl) (by kernel_rfl) (by kernel_rfl) (fun _ _ _ h => h) (Or.inl ⟨by rfl, ?_⟩) (by assumption) ?_
              rotate_left
              · (first | (intro v hSw; (try dsimp only at hSw); go_simp; done) | (intro v hSw; (try dsimp only at hSw); go_simp; with_reducible rfl))
              (try simp only [List.getElem_toArray, List.getElem_cons_succ, List.getElem_cons_zero, Act.put, List.setIfInBounds_toArray, List.set_cons_zero, List.set_cons_succ])
              refine wpAnyH_take (i := 4) (oi := _) (v := ?_) rfl (by kernel_rfl) (by kernel_rfl) (by kernel_rfl) (fun _ _ _ h => h) (Or.inl ⟨by rfl, ?_⟩) (by assumption) ?_
              rotate_left
              · (first | (intro v hSw; (try dsimp only at hSw); go_simp; done) | (intro v hSw; (try dsimp only at hSw); go_simp; with_reducible rfl))
              (try simp only [List.getElem_toArray, List.getElem_cons_succ, List.getElem_cons_zero, Act.put, List.setIfInBounds_toArray, List.set_cons_zero, List.set_cons_succ])
              refine wpAnyH_take (i := 5) (oi := _) (v := ?_) rfl (by kernel_rfl) (by kernel_rfl) (by kernel_rfl) (fun _ _ _ h => h) (Or.inl ⟨by rfl, ?_⟩) (by assumption) ?_
              rotate_left
              · (first | (intro v hSw; (try dsimp only at hSw); go_simp; done) | (intro v hSw; (try dsimp only at hSw); go_simp; with_reducible rfl))
              (try simp only [List.getElem_toArray, List.getElem_cons_succ, List.getElem_cons_zero, Act.put, List.setIfInBounds_toArray, List.set_cons_zero, List.set_cons_succ])
              refine wpAnyH_take (i := 6) (oi := _) (v := ?_) rfl (by kernel_rfl) (by kernel_rfl) (by kernel_rfl) (fun _ _ _ h => h) (Or.inl ⟨by rfl, ?_⟩) (by assumption) ?_
              rotate_left
              · (first | (intro v hSw; (try dsimp only at hSw); go_simp; done) | (intro v hSw; (try dsimp only at hSw); go_simp; with_reducible rfl))
              (try simp only [List.getElem_toArray, List.getElem_cons_succ, List.getElem_cons_zero, Act.put, List.setIfInBounds_toArray, List.set_cons_zero, List.set_cons_succ])
              refine wpAnyH_ready (rs := [7]) (by kernel_rfl) (by simp) ?_
              refine AllReadyH.cons (o := _) rfl (fun K hK => ?_) AllReadyH.nil
              go_simp
              refine hK.out _ _ ?_ (fun hHeld => ?_)
              · ((try dsimp only); first | exact b3 | exact HB3.out | exact (kset W.drew X 1 _).cell (by simpa using HC3.out.xb.symm) HB3.out | exact (((Kept.refl [X] W.drew).setCell (.inl (by simp)) _).setCell (.inl (by simp)) _).cell (by simpa using HC3.out.xb.symm) HB3.out)
              clear hK K
              (try simp only [List.getElem_toArray, List.getElem_cons_succ, List.getElem_cons_zero, Act.put, List.setIfInBounds_toArray, List.set_cons_zero, List.set_cons_succ])
              refine wpAnyH_take (i := 8) (oi := _) (v := ?_) rfl (by kernel_rfl) (by kernel_rfl) (by kernel_rfl) (fun _ _ _ h => h) (Or.inl ⟨by rfl, ?_⟩) (by assumption) ?_
              rotate_left
              · (first | (intro v hSw; (try dsimp only at hSw); go_simp; done) | (intro v hSw; (try dsimp only at hSw); go_simp; with_reducible rfl))
              (try simp only [List.getElem_toArray, List.getElem_cons_succ, List.getElem_cons_zero, Act.put, List.setIfInBounds_toArray, List.set_cons_zero, List.set_cons_succ])
              refine wpAnyH_take (i := 9) (oi := _) (v := ?_) rfl (by kernel_rfl) (by kernel_rfl) (by kernel_rfl) (fun _ _ _ h => h) (Or.inl ⟨by rfl, ?_⟩) (by assumption) ?_
              rotate_left
              · (first | (intro v hSw; (try dsimp only at hSw); go_simp; done) | (intro v hSw; (try dsimp only at hSw); go_simp; with_reducible rfl))
              (try simp only [List.getElem_toArray, List.getElem_cons_succ, List.getElem_cons_zero, Act.put, List.setIfInBounds_toArray, List.set_cons_zero, List.set_cons_succ])
              refine wpAnyH_ready (rs := [10]) (by kernel_rfl) (by simp) ?_
              refine AllReadyH.cons (o := _) rfl (fun K hK => ?_) AllReadyH.nil
              go_simp
              refine hK.out _ _ ?_ (fun hHeld => ?_)
              · ((try dsimp only); first | exact b3 | exact HB3.out | exact (kset W.drew X 1 _).cell (by simpa using HC3.out.xb.symm) HB3.out | exact (((Kept.refl [X] W.drew).setCell (.inl (by simp)) _).setCell (.inl (by simp)) _).cell (by simpa using HC3.out.xb.symm) HB3.out)
              clear hK K
              (try simp only [List.getElem_toArray, List.getElem_cons_succ, List.getElem_cons_zero, Act.put, List.setIfInBounds_toArray, List.set_cons_zero, List.set_cons_succ])
              refine wpAnyH_done (by kernel_rfl) ?_ _
              refine NoPanic.normal ?_
              -- region end
              go_wp2_with fail
              go_ret
              have q := HC3.out
              exact ⟨rfl, RkAt.put (x := ⟨x.floor, now - r.sent, x.order, (rch x r).fin, (rch x r).mixed, x.mult, x.round, x.rest⟩) 2 _ (RkAt.put (x := rch x r) 1 _ (w := W.drew) q.x rfl) rfl, (q.kept.drew).trans (((Kept.refl [X] W.drew).setCell (.inl (by simp)) _).setCell (.inl (by simp)) _) (by simp)⟩
    · have hTb := decide_eq_false hT
      by_cases ho : r.order ≤ x.order
      · have hob : decide (r.order ≤ (rch x r).order) = true := decide_eq_true ho
        have HU : Hid (cameB x r now least has told val = false ∧ came x r now least has told val = rch x r) := Lib.hid (by unfold came cameB unsure; simp [ho])
        rw [HU.out.1, HU.out.2]
        clear HU hT
        go_enter Try.func19, Try.ntmps19
        obtain ⟨b0, b1, b2, b3, b4, b5, b6⟩ := HC.out.bs
        obtain ⟨e0, e1⟩ := HC.out.es
        go_wp2_with (first | (go_at_call 43; ((with_reducible refine (reach_any HC.out.x r).mono ?_); rintro e w2 ⟨⟨v, rfl⟩, x2, k2⟩; have C2 := HC.out.wrote x2 k2; clear HC x2 k2 b0 b1 b2 b3 b4 b5 b6 e0 e1; obtain ⟨b0, b1, b2, b3, b4, b5, b6⟩ := C2.bs; obtain ⟨e0, e1⟩ := C2.es)) | (go_at_call 44; (with_reducible refine (HSI.out _).mono ?_); rintro e w3 ⟨rfl, rfl⟩))
        obtain ⟨c0, c1, c2, c3, c4, c5, c6, c7⟩ := C2.x.cs
        have HC2 := Lib.hid C2
        clear C2
        go_quiet (fail)
        go_wp2_with fail
        go_ret
        exact ⟨rfl, (HC2.out.drewN nq).x, (HC2.out.drewN nq).kept⟩
      · have hob : decide (r.order ≤ (rch x r).order) = false := decide_eq_false ho
        have HU : Hid (cameB x r now least has told val = true ∧ came x r now least has told val = ⟨x.floor, now - r.sent, r.order, (rch x r).fin, (rch x r).mixed, x.mult, x.round, x.rest⟩) := Lib.hid (by have e : cameB x r now least has told val = true := (by unfold cameB unsure; simp [h1, hT, ho]); unfold came; rw [if_pos e]; exact ⟨e, rfl⟩)
        rw [HU.out.1, HU.out.2]
        clear HU hT
        go_enter Try.func19, Try.ntmps19
        obtain ⟨b0, b1, b2, b3, b4, b5, b6⟩ := HC.out.bs
        obtain ⟨e0, e1⟩ := HC.out.es
        go_wp2_with (first | (go_at_call 43; ((with_reducible refine (reach_any HC.out.x r).mono ?_); rintro e w2 ⟨⟨v, rfl⟩, x2, k2⟩; have C2 := HC.out.wrote x2 k2; clear HC x2 k2 b0 b1 b2 b3 b4 b5 b6 e0 e1; obtain ⟨b0, b1, b2, b3, b4, b5, b6⟩ := C2.bs; obtain ⟨e0, e1⟩ := C2.es)) | (go_at_call 44; (with_reducible refine (HSI.out _).mono ?_); rintro e w3 ⟨rfl, rfl⟩))
        obtain ⟨c0, c1, c2, c3, c4, c5, c6, c7⟩ := C2.x.cs
        have HC2 := Lib.hid C2
        clear C2
        go_quiet (fail)
        go_wp2_with fail
        have C3 := HC2.out.drewN nq
        clear HC2 b0 b1 b2 b3 b4 b5 b6 e0 e1 c0 c1 c2 c3 c4 c5 c6 c7
        obtain ⟨b0, b1, b2, b3, b4, b5, b6⟩ := C3.bs
        obtain ⟨c0, c1, c2, c3, c4, c5, c6, c7⟩ := C3.x.cs
        have f1 := C3.x.f 1; have f2 := C3.x.f 2
        have HC3 := Lib.hid C3
        clear C3
        generalize (World.drewN _ nq) = W at *
        have HB3 := Lib.hid (show W.drew.cell? ⟨w.heap.size, 3, none⟩ = some (.int .i64 r.order) from b3)
        -- region
        refine wp_region_noPanic ?_
        refine wp_region_held_drew (S := (fun w' => w'.cell? ⟨w.heap.size, 3, none⟩ = some (.int .i64 r.order))) (by kernel_rfl) ?_ (fun hHeld => ?_)
        · ((try dsimp only); first | exact HB3.out)
        refine wpAnyH_take (i := 0) (oi := _) (v := ?_) rfl (by kernel_rfl) (by kernel_rfl) (by kernel_rfl) (fun _ _ _ h => h) (Or.inl ⟨by rfl, ?_⟩) (by assumption) ?_
        rotate_left
        · (first | (intro v hSw; (try dsimp only at hSw); go_simp; done) | (intro v hSw; (try dsimp only at hSw); go_simp; with_reducible rfl))
        (try simp only [List.getElem_toArray, List.getElem_cons_succ, List.getElem_cons_zero, Act.put, List.setIfInBounds_toArray, List.set_cons_zero, List.set_cons_succ])
        refine wpAnyH_take (i := 1) (oi := _) (v := ?_) rfl (by kernel_rfl) (by kernel_rfl) (by kernel_rfl) (fun _ _ _ h => h) (Or.inl ⟨by rfl, ?_⟩) (by assumption) ?_
        rotate_left
        · (first | (intro v hSw; (try dsimp only at hSw); go_simp; done) | (intro v hSw; (try dsimp only at hSw); go_simp; with_reducible rfl))
        (try simp only [List.getElem_toArray, List.getElem_cons_succ, List.getElem_cons_zero, Act.put, List.setIfInBounds_toArray, List.set_cons_zero, List.set_cons_succ])
        refine wpAnyH_take (i := 2) (oi := _) (v := ?_) rfl (by kernel_rfl) (by kernel_rfl) (by kernel_rfl) (fun _ _ _ h => h) (Or.inl ⟨by rfl, ?_⟩) (by assumption) ?_
        rotate_left
        · (first | (intro v hSw; (try dsimp only at hSw); go_simp; done) | (intro v hSw; (try dsimp only at hSw); go_simp; with_reducible rfl))
        (try simp only [List.getElem_toArray, List.getElem_cons_succ, List.getElem_cons_zero, Act.put, List.setIfInBounds_toArray, List.set_cons_zero, List.set_cons_succ])
        refine wpAnyH_take (i := 3) (oi := _) (v := ?_) rfl (by kernel_rfl) (by kernel_rfl) (by kernel_rfl) (fun _ _ _ h => h) (Or.inl ⟨by rfl, ?_⟩) (by assumption) ?_
        rotate_left
        · (first | (intro v hSw; (try dsimp only at hSw); go_simp; done) | (intro v hSw; (try dsimp only at hSw); go_simp; with_reducible rfl))
        (try simp only [List.getElem_toArray, List.getElem_cons_succ, List.getElem_cons_zero, Act.put, List.setIfInBounds_toArray, List.set_cons_zero, List.set_cons_succ])
        refine wpAnyH_take (i := 4) (oi := _) (v := ?_) rfl (by kernel_rfl) (by kernel_rfl) (by kernel_rfl) (fun _ _ _ h => h) (Or.inl ⟨by rfl, ?_⟩) (by assumption) ?_
        rotate_left
        · (first | (intro v hSw; (try dsimp only at hSw); go_simp; done) | (intro v hSw; (try dsimp only at hSw); go_simp; with_reducible rfl))
        (try simp only [List.getElem_toArray, List.getElem_cons_succ, List.getElem_cons_zero, Act.put, List.setIfInBounds_toArray, List.set_cons_zero, List.set_cons_succ])
        refine wpAnyH_take (i := 5) (oi := _) (v := ?_) rfl (by kernel_rfl) (by kernel_rfl) (by kernel_rfl) (fun _ _ _ h => h) (Or.inl ⟨by rfl, ?_⟩) (by assumption) ?_
        rotate_left
        · (first | (intro v hSw; (try dsimp only at hSw); go_simp; done) | (intro v hSw; (try dsimp only at hSw); go_simp; with_reducible rfl))
        (try simp only [List.getElem_toArray, List.getElem_cons_succ, List.getElem_cons_zero, Act.put, List.setIfInBounds_toArray, List.set_cons_zero, List.set_cons_succ])
        refine wpAnyH_take (i := 6) (oi := _) (v := ?_) rfl (by kernel_rfl) (by kernel_rfl) (by kernel_rfl) (fun _ _ _ h => h) (Or.inl ⟨by rfl, ?_⟩) (by assumption) ?_
        rotate_left
        · (first | (intro v hSw; (try dsimp only at hSw); go_simp; done) | (intro v hSw; (try dsimp only at hSw); go_simp; with_reducible rfl))
        (try simp only [List.getElem_toArray, List.getElem_cons_succ, List.getElem_cons_zero, Act.put, List.setIfInBounds_toArray, List.set_cons_zero, List.set_cons_succ])
        refine wpAnyH_ready (rs := [7]) (by kernel_rfl) (by simp) ?_
        refine AllReadyH.cons (o := _) rfl (fun K hK => ?_) AllReadyH.nil
        go_simp
        refine hK.out _ _ ?_ (fun hHeld => ?_)
        · ((try dsimp only); first | exact b3 | exact HB3.out | exact (kset W.drew X 1 _).cell (by simpa using HC3.out.xb.symm) HB3.out | exact (((Kept.refl [X] W.drew).setCell (.inl (by simp)) _).setCell (.inl (by simp)) _).cell (by simpa using HC3.out.xb.symm) HB3.out)
        clear hK K
        (try simp only [List.getElem_toArray, List.getElem_cons_succ, List.getElem_cons_zero, Act.put, List.setIfInBounds_toArray, List.set_cons_zero, List.set_cons_succ])
        refine wpAnyH_take (i := 8) (oi := _) (v := ?_) rfl (by kernel_rfl) (by kernel_rfl) (by kernel_rfl) (fun _ _ _ h => h) (Or.inl ⟨by rfl, ?_⟩) (by assumption) ?_
        rotate_left
        · (first | (intro v hSw; (try dsimp only at hSw); go_simp; done) | (intro v hSw; (try dsimp only at hSw); go_simp; with_reducible rfl))
        (try simp only [List.getElem_toArray, List.getElem_cons_succ, List.getElem_cons_zero, Act.put, List.setIfInBounds_toArray, List.set_cons_zero, List.set_cons_succ])
        refine wpAnyH_take (i := 9) (oi := _) (v := ?_) rfl (by kernel_rfl) (by kernel_rfl) (by kernel_rfl) (fun _ _ _ h => h) (Or.inl ⟨by rfl, ?_⟩) (by assumption) ?_
        rotate_left
        · (first | (intro v hSw; (try dsimp only at hSw); go_simp; done) | (intro v hSw; (try dsimp only at hSw); go_simp; with_reducible rfl))
        (try simp only [List.getElem_toArray, List.getElem_cons_succ, List.getElem_cons_zero, Act.put, List.setIfInBounds_toArray, List.set_cons_zero, List.set_cons_succ])
        refine wpAnyH_ready (rs := [10]) (by kernel_rfl) (by simp) ?_
        refine AllReadyH.cons (o := _) rfl (fun K hK => ?_) AllReadyH.nil
        go_simp
        refine hK.out _ _ ?_ (fun hHeld => ?_)
        · ((try dsimp only); first | exact b3 | exact HB3.out | exact (kset W.drew X 1 _).cell (by simpa using HC3.out.xb.symm) HB3.out | exact (((Kept.refl [X] W.drew).setCell (.inl (by simp)) _).setCell (.inl (by simp)) _).cell (by simpa using HC3.out.xb.symm) HB3.out)
        clear hK K
        (try simp only [List.getElem_toArray, List.getElem_cons_succ, List.getElem_cons_zero, Act.put, List.setIfInBounds_toArray, List.set_cons_zero, List.set_cons_succ])
        refine wpAnyH_done (by kernel_rfl) ?_ _
        refine NoPanic.normal ?_
        -- region end
        go_wp2_with fail
        go_ret
        have q := HC3.out
        exact ⟨rfl, RkAt.put (x := ⟨x.floor, now - r.sent, x.order, (rch x r).fin, (rch x r).mixed, x.mult, x.round, x.rest⟩) 2 _ (RkAt.put (x := rch x r) 1 _ (w := W.drew) q.x rfl) rfl, (q.kept.drew).trans (((Kept.refl [X] W.drew).setCell (.inl (by simp)) _).setCell (.inl (by simp)) _) (by simp)⟩
end Go.Proofs.Ytpoifoanigpncaa.rk
