/-
  The reference's Dup.
-/
import Derived.Test.YtkimlcmbbfcffaaLedS
namespace Go.Proofs.Ytkimlcmbbfcffaa.lg
open Go.RowKit Go.Shelf aid mem sp rn
attribute [local go_sem ↓] Go.wp_at_zero Go.wp_at_succ
set_option linter.unusedVariables false
set_option linter.unusedSimpArgs false

section
variable {P : Program} (w : World)
theorem run_append_slr1 (t tx ty : TypeId) (e : TypeId) (i : TypeInfo) (z : Value) (sz bytes : Nat) (ht : P.underlying t = some (.slice e)) (hi : P.info? e = some i) (hz : i.zero = some z)
    (hsize : i.size = sz) (hsz : 0 < sz) (hby : i.bytes = bytes) (hzs : z.cells.size = sz)
    (g off : Nat) (n cap : Nat) (xs : List Value) (hown : SlR w e sz (some ⟨g, off, none⟩) n cap xs) (x : Value) (m : Nat) (news : List Value) (hs : Src P sz tx x m news w)
    (h63 : n + m ≤ maxLen) (hbytes : (n + m) * bytes ≤ 140737488355328) :
    ∃ g' off' cap' w', (Builtin.append_ #[t, tx] ty #[.slice (some ⟨g, off, none⟩) n cap, x]).run P w = .ok (.slice (some ⟨g', off', none⟩) (n + m) cap') w' ∧ SlR w' e sz (some ⟨g', off', none⟩) (n + m) cap' (xs ++ news) ∧ Kept (blk (some ⟨g, off, none⟩) cap) w w' ∧
      ∀ b ∈ blk (some ⟨g', off', none⟩) cap', b ∈ blk (some ⟨g, off, none⟩) cap ∨ w.heap.size ≤ b := by
  by_cases hm : m = 0
  · subst hm
    have hnl : news.length = 0 := by simpa using hs.newsLen
    obtain rfl : news = [] := List.eq_nil_of_length_eq_zero hnl
    have hs' : Src P i.size tx x 0 [] w := by rw [hsize]; exact hs
    have hr := run_append_room_src (P := P) w t tx ty e i ht hi g off n cap x 0 [] hs' (by have := hown.le; omega) (fun j hj => by simp at hj) (fun j hj => by simp at hj)
    exact ⟨g, off, cap, w, hr, by rw [List.append_nil]; exact hown, Kept.refl _ _, fun b hb => .inl hb⟩
  · obtain ⟨a', cap', w', h1, h2, h3, h4⟩ := run_append_slr w t tx ty e i z sz bytes ht hi hz hsize hsz hby hzs (some ⟨g, off, none⟩) n cap xs hown x m (by omega) news hs h63 hbytes
    obtain ⟨g', off', rfl, _⟩ := h2.cell (by have := h2.le; omega)
    exact ⟨g', off', cap', w', h1, h2, h3, h4⟩
theorem wpList_append_slr1 {ops : Array Oper} {rest : List Oper} {o : Oper} {a : Act} {Q : Exit → Act → World → Prop} (hgd : o.guard = none) (s x : Operand) (t tx : TypeId)
    (ho : o.op = .call { callee := .builtin .append, args := #[s, x], argTypes := #[t, tx] })
    (e : TypeId) (i : TypeInfo) (z : Value) (sz bytes : Nat) (ht : P.underlying t = some (.slice e)) (hi : P.info? e = some i) (hz : i.zero = some z)
    (hsize : i.size = sz) (hsz : 0 < sz) (hby : i.bytes = bytes) (hzs : z.cells.size = sz)
    (g off : Nat) (n cap : Nat) (xs : List Value) (hsv : a.eval s = .slice (some ⟨g, off, none⟩) n cap) (hown : SlR w e sz (some ⟨g, off, none⟩) n cap xs) (xv : Value) (hx : a.eval x = xv) (m : Nat) (news : List Value) (hs : Src P sz tx xv m news w)
    (h63 : n + m ≤ maxLen) (hbytes : (n + m) * bytes ≤ 140737488355328)
    (h : ∀ g' off' cap' w', SlR w' e sz (some ⟨g', off', none⟩) (n + m) cap' (xs ++ news) → Kept (blk (some ⟨g, off, none⟩) cap) w w' → (∀ b ∈ blk (some ⟨g', off', none⟩) cap', b ∈ blk (some ⟨g, off, none⟩) cap ∨ w.heap.size ≤ b) → wpList P ops Q rest (a.put o.dst (.slice (some ⟨g', off', none⟩) (n + m) cap')) w') : wpList P ops Q (o :: rest) a w :=
  wpList_plain hgd fun _ hK => by
    obtain ⟨g', off', cap', w', hr, h2, h3, h4⟩ := run_append_slr1 (P := P) w t tx o.type e i z sz bytes ht hi hz hsize hsz hby hzs g off n cap xs hown xv m news hs h63 hbytes
    unfold Oper.wp execOp
    simp only [ho, resolve, invoke, builtin, Sem.run_bind, Sem.run_pure, Result.andThen_ok, List.map_toArray, List.map_cons, List.map_nil, hsv, hx, hr]
    exact hK _ _ (h g' off' cap' w' h2 h3 h4)
end
/-- list[:k] -/
theorem slice_front {w : World} {g off : Nat} {n cap : Nat} {l : List Sp} (h : SlR w 32 2 (some ⟨g, off, none⟩) n cap (spCells l)) (k : Nat) (hk : k < n) :
    (∀ wx, (Instr.slice 26 (.slice (some ⟨g, off, none⟩) n cap) none (some (.int .i64 (k : Int))) none).run Try.prog wx = .ok (.slice (some ⟨g, off, none⟩) k cap) wx) ∧
      ∀ C, SlR C 32 2 (some ⟨g, off, none⟩) n cap (spCells l) → SlR C 32 2 (some ⟨g, off, none⟩) k cap (spCells (l.take k)) := by
  obtain ⟨i0, hi, hz0, hz1, hz2⟩ := info_split info_span
  have hle := h.le
  have h1 : k ≤ cap := by omega
  refine ⟨fun wx => ?_, fun C hC => ?_⟩
  · have e1 : (asIntOf (.int .i64 (k : Int))).run Try.prog wx = .ok (.i64, (k : Int)) wx := rfl
    by_cases hk0 : k = 0
    · subst hk0
      have e1 : (asIntOf (.int .i64 0)).run Try.prog wx = .ok (.i64, 0) wx := rfl
      simp [Instr.slice, Instr.sliceBounds, Instr.sliceBound, run_underlying Try.underlying26, sizeOf, typeInfo, hi, hz1, e1, h1, Addr.add]
    · simp [Instr.slice, Instr.sliceBounds, Instr.sliceBound, run_underlying Try.underlying26, sizeOf, typeInfo, hi, hz1, e1, h1, Addr.add]
  · have := hC.sub 0 k cap (by omega) (by omega) h1 (Nat.le_refl _) (by omega)
    rw [spTake, spDrop] at this
    simpa using this
set_option maxRecDepth 100000 in
set_option maxHeartbeats 4000000 in
theorem rdup_any {w : World} {x : Ld} {a : Option Addr} {n cap : Nat} (h : SlR w 32 2 a n cap (spCells x.l)) (hn : n ≤ 256) (hne : ∀ p ∈ x.l, lenI p ≠ 0) (s : Sp) : Calls Try.prog 23 #[rV x a n cap, spV s] w (RetA (dupX x s) (.bool (hasB s x.l)) (blk a cap) w) := by
  have HR := Lib.hid (r3_new h s)
  have hlen := row_len h
  have HLW := Lib.hid (rlen_any s)
  have HE := Lib.hid (fun (hz : lenI s = 0) => show hasB s x.l = false ∧ dupX x s = x from by
    have := idx_empty hz hne
    exact ⟨this, by unfold dupX; rw [if_neg (by rw [this]; simp)]⟩)
  have HN := Lib.hid (fun (hh : ∀ t, t < n → holdsB s (x.l.getD t (0, 0)) = false) => show hasB s x.l = false ∧ dupX x s = x from by
    have := idx_none (s := s) (l := x.l) (by rw [hlen]; exact hh)
    exact ⟨this, by unfold dupX; rw [if_neg (by rw [this]; simp)]⟩)
  have HY := Lib.hid (fun (k : Nat) (hk : k < n) (hh : ∀ t, t < k → holdsB s (x.l.getD t (0, 0)) = false) (h2 : holdsB s (x.l.getD k (0, 0)) = true) => show hasB s x.l = true ∧ dupX x s = ⟨x.op, x.cw, x.th, x.l.take k ++ x.l.drop (k + 1), x.sp⟩ from by
    have e := idx_is (s := s) (l := x.l) (by omega) hh h2
    have hb : hasB s x.l = true := by unfold hasB; rw [e]; exact decide_eq_true (by omega)
    exact ⟨hb, by unfold dupX del; rw [if_pos hb, e]⟩)
  generalize dupX x s = D at *
  generalize hasB s x.l = bb at *
  have hle := h.le
  have hmost := h.most
  unfold maxLen at hmost
  have HB := Lib.hid (fun b (hb : b ∈ blk a cap) => (h.lt b hb).1)
  have HH := Lib.hid h
  clear h hlen hne
  obtain ⟨c0, c1⟩ := And.intro HR.out.bs.c0 HR.out.bs.c1
  by_cases hz : lenI s = 0
  · obtain ⟨rfl, rfl⟩ := HE.out hz
    rw [hz] at HLW
    clear HE HN HY hz
    go_enter Try.func23, Try.ntmps23
    go_wp2_with (go_at_call 18; go_must (with_reducible refine (HLW.out _).mono ?_); rintro e w2 ⟨rfl, hb2⟩; have R := HR.out.later hb2; clear c0 c1 hb2; obtain ⟨r0, r1, r2, r3, r4⟩ := st_of R.b0; obtain ⟨z0, z1, z2, z3, z4⟩ := st_of R.rs; obtain ⟨f0, f1, f2, f3, f4⟩ := fz_of R.rs; have HF := Lib.hid (R.fin (S := blk a cap) (fun b hb => .inl hb)); clear R)
    obtain ⟨y0, y1, y2, y3, y4⟩ := st_of HF.out.1
    exact bodyPost_ret (v := .tuple #[rV D a n cap, .bool false]) (by simp [results, Try.results23, go_sem, y0, y1, y2, y3, y4]) rfl ⟨a, n, cap, rfl, HF.out.2⟩
  generalize lenI s = zz at *
  clear HE
  go_enter Try.func23, Try.ntmps23
  go_wp2_with (go_at_call 18; go_must (with_reducible refine (HLW.out _).mono ?_); rintro e w2 ⟨rfl, hb2⟩; have R := HR.out.later hb2; clear c0 c1 hb2 HR HLW)
  have hzz : (zz == 0) = false := by simp [hz]
  simp only [hzz]
  clear hzz hz
  go_loopw [6] (fun i wr => ∃ k : Nat, i = .int .i64 k ∧ k ≤ n ∧ R3 w x a n cap s wr ∧ Hid (∀ t, t < k → holdsB s (x.l.getD t (0, 0)) = false)) (fun i _ => n - (intOf i).toNat)
  case atStart => exact ⟨0, rfl, Nat.zero_le _, R, Lib.hid (fun t ht => by omega)⟩
  case round =>
    clear R
    obtain ⟨k, rfl, hk, R, HI⟩ := hrel
    obtain ⟨r0, r1, r2, r3, r4⟩ := st_of R.b0
    by_cases hlt : k < n
    case neg =>
      obtain rfl : k = n := by omega
      obtain ⟨rfl, rfl⟩ := HN.out HI.out
      obtain ⟨z0, z1, z2, z3, z4⟩ := st_of R.rs; obtain ⟨f0, f1, f2, f3, f4⟩ := fz_of R.rs
      have HF := Lib.hid (R.fin (S := blk a cap) (fun b hb => .inl hb))
      clear R
      go_wp2_with fail
      obtain ⟨y0, y1, y2, y3, y4⟩ := st_of HF.out.1
      exact bodyPost_ret (v := .tuple #[rV D a k cap, .bool false]) (by simp [results, Try.results23, go_sem, y0, y1, y2, y3, y4]) rfl ⟨a, k, cap, rfl, HF.out.2⟩
    case pos =>
      obtain ⟨g, off, rfl, _⟩ := row_cells HH.out (by omega)
      have HCL := Lib.hid (fun W (h : R3 w x (some ⟨g, off, none⟩) n cap s W) => show W.cell? ⟨w.heap.size + 1, 0, none⟩ = some (.int .i64 s.1) ∧ W.cell? ⟨w.heap.size + 1, 1, none⟩ = some (.int .i64 s.2) ∧ W.cell? ⟨w.heap.size, 3, none⟩ = some (.slice (some ⟨g, off, none⟩) n cap) ∧ W.cell? ⟨g, off + k * 2, none⟩ = some (.int .i64 (x.l.getD k (0, 0)).1) ∧ W.cell? ⟨g, off + k * 2 + 1, none⟩ = some (.int .i64 (x.l.getD k (0, 0)).2) from by
        obtain ⟨g', off', hx, hc⟩ := row_cells h.row (by omega)
        injection hx with hx
        injection hx with hx1 hx2
        subst hx1 hx2
        exact ⟨h.bs.c0, h.bs.c1, cofr h.b0 3 _ rfl, (hc k hlt).1, (hc k hlt).2⟩)
      have HNX := Lib.hid (fun (h2 : holdsB s (x.l.getD k (0, 0)) = false) => show ∀ t, t < k + 1 → holdsB s (x.l.getD t (0, 0)) = false from fun t ht => by
        by_cases c : t = k
        · subst c; exact h2
        · exact HI.out t (by omega))
      have HYX := Lib.hid (fun (h2 : holdsB s (x.l.getD k (0, 0)) = true) => HY.out k hlt HI.out h2)
      have HW := Lib.hid (fun W => rholds_any s (x.l.getD k (0, 0)) W)
      clear HY HN
      generalize x.l.getD k (0, 0) = m at *
      have HRD := Lib.hid (R.later (Below.refl _ _).drew)
      have P0 := HCL.out _ HRD.out
      go_upto_region 6 with fail
      clear r0 r1 r2 r3 r4
      obtain ⟨p0, p1, p2, p3, p4⟩ := HCL.out _ R
      cases hB : holdsB s m with
      | false =>
        rw [hB] at HW
        have HI2 := Lib.hid (HNX.out hB)
        clear HNX HYX hB
        go_wp2_with fail
        go_region_held3 (fun W => W.cell? ⟨w.heap.size + 1, 0, none⟩ = some (.int .i64 s.1) ∧ W.cell? ⟨w.heap.size + 1, 1, none⟩ = some (.int .i64 s.2) ∧ W.cell? ⟨w.heap.size, 3, none⟩ = some (.slice (some ⟨g, off, none⟩) n cap) ∧ W.cell? ⟨g, off + k * 2, none⟩ = some (.int .i64 m.1) ∧ W.cell? ⟨g, off + k * 2 + 1, none⟩ = some (.int .i64 m.2)) (first | with_reducible exact P1 | with_reducible exact P0 | go_keep)
          ((go_at_call 30; (with_reducible refine (HW.out _).mono ?_); rintro e w5 ⟨rfl, hb5⟩; have R5 := HRD.out.later hb5; have P1 := HCL.out _ R5))
        go_wp2_with fail
        go_roundw
        case rel => exact ⟨k + 1, by go_num, by omega, R5, HI2⟩
        case measure => simp [intOf]; omega
      | true =>
        rw [hB] at HW
        obtain ⟨rfl, rfl⟩ := HYX.out hB
        clear HNX HYX hB
        go_wp2_with fail
        go_region_held3 (fun W => W.cell? ⟨w.heap.size + 1, 0, none⟩ = some (.int .i64 s.1) ∧ W.cell? ⟨w.heap.size + 1, 1, none⟩ = some (.int .i64 s.2) ∧ W.cell? ⟨w.heap.size, 3, none⟩ = some (.slice (some ⟨g, off, none⟩) n cap) ∧ W.cell? ⟨g, off + k * 2, none⟩ = some (.int .i64 m.1) ∧ W.cell? ⟨g, off + k * 2 + 1, none⟩ = some (.int .i64 m.2)) (first | with_reducible exact P1 | with_reducible exact P0 | go_keep)
          ((go_at_call 30; (with_reducible refine (HW.out _).mono ?_); rintro e w5 ⟨rfl, hb5⟩; have R5 := HRD.out.later hb5; have P1 := HCL.out _ R5))
        clear P0 P1 p0 p1 p2 p3 p4 HCL HW HRD R
        obtain ⟨i0, hi, hz0, hz1, hz2⟩ := info_split info_span
        obtain ⟨hs1, hr1⟩ := slice_front HH.out k hlt
        obtain ⟨a2, hs2, hr2⟩ := slice_tail HH.out k hlt
        have HR2 := Lib.hid hr2
        have HS2 := Lib.hid hs2
        clear hs2 hr2
        have hb6 := bal (w := w5) (.cells #[] 32)
        have R6 := R5.later hb6
        have r3 := (st_of R6.b0).2.2.2.1
        have HV := Lib.hid (show w.heap.size + 1 + 1 < w5.heap.size from lt_of_block R5.rs)
        have HSRC := Lib.hid ((hr1 _ R6.row).src Try.underlying26 (spCells_one _))
        have HRR := Lib.hid R6
        clear hr1 R6 hb6 R5 hb5
        go_upto_region 8 with (at_builtin; go_must (refine wpList_append_slr1 _ rfl (.tmp 26) (.tmp 30) 26 26 rfl 32 i0 (.agg #[.int .i64 0, .int .i64 0]) 2 16 Try.underlying26 hi hz0 hz1 (by decide) hz2 rfl w5.heap.size 0 0 0 [] rfl (SlR.sub0 _) _ rfl k (spCells (x.l.take k)) HSRC.out (by unfold maxLen; omega) (by omega) ?_); intro g1 o1 cap1 w6 hrow hkp hat)
        have hbe := kept_nil hkp (blk_zero _)
        have R := HRR.out.later hbe
        have HAT := Lib.hid (fun b (hb : b ∈ blk (some ⟨g1, o1, none⟩) cap1) => show w.heap.size + 1 + 1 < b ∧ w5.heap.size ≤ b from by
          rcases hat b hb with q | q
          · simp [blk_zero] at q
          · have := HV.out; have : w5.heap.size ≤ (w5.alloc (.cells #[] 32)).heap.size := by simp
            omega)
        have HBL := Lib.hid (show ∀ b ∈ blk (some ⟨g, off, none⟩) cap, b < w5.heap.size from fun b hb => by have := HB.out b hb; have := HV.out; omega)
        have HSZ := Lib.hid (show w5.heap.size ≤ w6.heap.size from by have := hbe.size; simp at this; omega)
        clear hkp hat hbe HRR HSRC r3 hs1
        rw [Nat.zero_add] at hrow
        simp only [List.nil_append, Nat.zero_add] at hrow ⊢
        have HROW := Lib.hid hrow
        have HSRC := Lib.hid ((HR2.out _ R.row).src Try.underlying26 (spCells_one _))
        have HRA := Lib.hid R
        have hs2 := HS2.out
        have hwk : IntKind.i64.wrap ((k : Int) + 1) = (k : Int) + 1 := IntWalk.i64_in _ (by omega)
        have r3 := (st_of R.b0).2.2.2.1
        clear hrow R
        go_upto_region 9 with (at_builtin; go_must (refine wpList_append_slr1 _ rfl (.tmp 32) (.tmp 37) 26 26 rfl 32 i0 (.agg #[.int .i64 0, .int .i64 0]) 2 16 Try.underlying26 hi hz0 hz1 (by decide) hz2 rfl g1 o1 k cap1 (spCells (x.l.take k)) rfl HROW.out _ rfl (n - (k + 1)) (spCells (x.l.drop (k + 1))) HSRC.out (by unfold maxLen; omega) (by omega) ?_); intro g2 o2 cap2 w7 hrow2 hk2 hat2; have R := HRA.out.kept hk2 (fun b hb => (HAT.out b hb).1) (fun b hb e => by have := HBL.out b hb; have := (HAT.out b e).2; omega); clear r3; have g3 := fofr R.b0 3; have r3 := (st_of R.b0).2.2.2.1)
        have R4 := R.put (x' := ⟨x.op, x.cw, x.th, x.l.take k ++ x.l.drop (k + 1), x.sp⟩) 3 (.slice (some ⟨g2, o2, none⟩) (k + (n - (k + 1))) cap2) rfl (by rw [spCells_append]; exact hrow2)
        have HS4 := Lib.hid (show ∀ b ∈ blk (some ⟨g2, o2, none⟩) cap2, b ∈ blk (some ⟨g, off, none⟩) cap ∨ w.heap.size ≤ b from fun b hb => by
          have := HV.out
          have := HSZ.out
          rcases hat2 b hb with q | q
          · have := (HAT.out b q).1; exact .inr (by omega)
          · exact .inr (by omega))
        clear r3 g3 R hrow2 hk2 hat2 HRA HROW HSRC hs2 hwk
        generalize w7.setCell ⟨w.heap.size, 3, none⟩ (.slice (some ⟨g2, o2, none⟩) (k + (n - (k + 1))) cap2) = V at *
        obtain ⟨r0, r1, r2, r3, r4⟩ := st_of R4.b0; obtain ⟨z0, z1, z2, z3, z4⟩ := st_of R4.rs; obtain ⟨f0, f1, f2, f3, f4⟩ := fz_of R4.rs
        have HF := Lib.hid (R4.fin (S := blk (some ⟨g, off, none⟩) cap) HS4.out)
        clear R4
        go_wp2_with fail
        obtain ⟨y0, y1, y2, y3, y4⟩ := st_of HF.out.1
        exact bodyPost_ret (v := .tuple #[rV ⟨x.op, x.cw, x.th, x.l.take k ++ x.l.drop (k + 1), x.sp⟩ (some ⟨g2, o2, none⟩) (k + (n - (k + 1))) cap2, .bool true]) (by simp [results, Try.results23, go_sem, y0, y1, y2, y3, y4]) rfl ⟨_, _, cap2, rfl, HF.out.2⟩
end Go.Proofs.Ytkimlcmbbfcffaa.lg
