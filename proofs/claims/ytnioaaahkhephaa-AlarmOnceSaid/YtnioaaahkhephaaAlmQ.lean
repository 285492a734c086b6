/-
  Alarms: the queue's Push, Pop.
-/
import Derived.Test.YtnioaaahkhephaaAlmU
namespace Go.Proofs.Ytnioaaahkhephaa.al
open Go.RowKit Go.Maps aid mem
attribute [local go_sem ↓] Go.wp_at_zero Go.wp_at_succ
set_option linter.unusedVariables false
set_option linter.unusedSimpArgs false

theorem info_alarm : (Try.prog.info? 71).map (fun i => (i.zero, i.size, i.bytes)) = some (some (.agg #[.int .i64 0, .int .i64 0]), 2, 16) := by kernel_rfl
theorem al_src (X : World) (s : Al) : Src Try.prog 2 56 (.slice (some ⟨X.heap.size, 0, none⟩) 1 1) 1 [.int .i64 s.1, .int .i64 s.2] (X.alloc (.cells #[.int .i64 s.1, .int .i64 s.2] 71)) := by
  refine Src.ofSlice _ Try.underlying56 ⟨X.heap.size, 0, none⟩ 1 1 _ rfl ?_ (by simp [Value.oneCell'])
  intro j u hu
  have := cell_of_row (X.alloc (.cells #[.int .i64 s.1, .int .i64 s.2] 71)) X.heap.size j _ _ (0, 0) (heap_alloc_new X _)
  have hadd : (⟨X.heap.size, 0, none⟩ : Addr).add j = ⟨X.heap.size, 0 + j, none⟩ := by unfold Addr.add; split <;> simp_all
  rw [hadd, Nat.zero_add, this, ← hu]
  simp
theorem prow_snoc {w : World} {e : TypeId} {v : Value} {l : List Al} {x : Al} (h : w.ownsRow 0 e 2 v (l.length + 1) (cel l ++ [.int .i64 x.1, .int .i64 x.2])) : PRow w e v (l ++ [x]) := by
  unfold PRow; rw [cel_snoc, List.length_append, List.length_singleton]; exact h
/-- the header turned to another slice -/
theorem QAt.turn {w wq : World} {C : Nat} {nm now : Int} {v v' : Value} {bm : Nat} {l l' : List Al} {D : DataW Unit} (h : QAt w C nm now v bm l D) (hg : Kept (blkV v) w wq) (hr : PRow wq 71 v' l') (hv : ∀ k ∈ blkV v', k ∈ blkV v ∨ w.heap.size ≤ k) :
    QAt (wq.setCell ⟨C, 2, none⟩ v') C nm now v' bm l' D ∧ Kept (C :: bm :: blkV v) w (wq.setCell ⟨C, 2, none⟩ v') ∧ wq.cell? ⟨C, 2, none⟩ = some v ∧ wq.frozen? ⟨C, 2, none⟩ = false := by
  have hC : C ∉ blkV v := fun e => (h.own_ne e).1 rfl
  have hbm : bm ∉ blkV v := fun e => (h.own_ne e).2.1 rfl
  have hh := hg.heap hC h.hdr
  have hCl := lt_of_block h.hdr
  have hk : Kept (C :: bm :: blkV v) w (wq.setCell ⟨C, 2, none⟩ v') := (hg.mono (S' := C :: bm :: blkV v) (fun k hk => .inl (by simp [hk]))).setCell (.inl (by simp)) _
  refine ⟨⟨(heap_setCell_same wq C 2 _ _ v' hh).trans rfl, hr.step (fun k o hk' ho => ?_), map_block h.map (fun o ho => ?_)⟩, hk, cofr hh 2 _ rfl, fofr hh 2⟩
  · have hkC : k ≠ C := fun e => by
      rcases hv k (by unfold blkV; rw [hk']; simp) with q | q
      · exact hC (e ▸ q)
      · omega
    exact (Below.heap_setCell wq ⟨C, 2, none⟩ v' k (by simpa using hkC)).trans ho
  · exact (Below.heap_setCell wq ⟨C, 2, none⟩ v' bm (by simpa using h.ne1)).trans (hg.heap hbm ho)
theorem assert_alarm (a b : Int) (w : World) : (Instr.typeAssert (.iface 71 (.agg #[.int .i64 a, .int .i64 b])) 20 71 true).run Try.prog w = .ok (.tuple #[.agg #[.int .i64 a, .int .i64 b], .bool true]) w := by kernel_rfl
theorem own_app {v v' : Value} {n : Nat} (hw : v'.ownBlock = v.ownBlock ∨ v'.ownBlock = some n) : ∀ k ∈ blkV v', k ∈ blkV v ∨ n ≤ k := by
  intro k hk
  unfold blkV at *
  rcases hw with e | e
  · rw [e] at hk; exact .inl hk
  · rw [e] at hk; simp at hk; exact .inr (by omega)
/-- what a change of the queue leaves -/
def QChg (C : Nat) (nm now : Int) (v : Value) (bm : Nat) (l' : List Al) (w : World) (w' : World) : Prop :=
  ∃ v' D', QAt w' C nm now v' bm l' D' ∧ Pl l' D' ∧ Kept (C :: bm :: blkV v) w w' ∧ ∀ k ∈ blkV v', k ∈ blkV v ∨ w.heap.size ≤ k
set_option maxRecDepth 100000 in
set_option maxHeartbeats 4000000 in
theorem push_any {w : World} {C : Nat} {nm now : Int} {v : Value} {bm : Nat} {l : List Al} {D : DataW Unit} (h : QAt w C nm now v bm l D) (hP : Pl l D) (hl : l.length ≤ 100000) (x : Al) (hx : ∀ y ∈ l, y.1 ≠ x.1)
    (hxw : -9223372036854775808 ≤ x.1 ∧ x.1 ≤ 9223372036854775807) :
    Calls Try.prog 57 #[.pointer (some ⟨C, 2, none⟩), .iface 71 (.agg #[.int .i64 x.1, .int .i64 x.2])] w (fun e w' => e = .returned (.tuple #[]) ∧ QChg C nm now v bm (l ++ [x]) w w') := by
  obtain ⟨i0, hi, hz0, hz1, hz2⟩ := info_split info_alarm
  have b1 := bal (w := w) (.cells #[.int .i64 x.1, .int .i64 x.2] 71)
  have x1 := heap_alloc_new w (.cells #[.int .i64 x.1, .int .i64 x.2] 71)
  have HQ := Lib.hid (And.intro h (And.intro b1 x1))
  clear b1 x1 h
  go_enter Try.func57, Try.ntmps57
  have tA := fun w => assert_alarm x.1 x.2 w
  go_wp2_with fail
  obtain ⟨h, b1, x1⟩ := HQ.out
  have h1 := h.later b1
  have hlt1 := lt_of_block x1
  have f4 := cofr x1 0 _ rfl
  have f5 := cofr x1 1 _ rfl
  have hc2 := cofr h1.hdr 2 _ rfl
  have hsz : (w.alloc (.cells #[.int .i64 x.1, .int .i64 x.2] 71)).heap.size = w.heap.size + 1 := by simp
  have hx1 := x1
  have hb1 := b1
  clear b1 x1 hsz
  generalize w.alloc (.cells #[.int .i64 x.1, .int .i64 x.2] 71) = W1 at *
  generalize hbx : w.heap.size = bx at *
  have b2 := (Below.refl W1.heap.size W1).drew.alloc (Nat.le_refl _) (.cells #[.int .i64 x.1, .int .i64 x.2] 71)
  have h2 := h1.later b2
  have hc3 := cofr h2.hdr 2 _ rfl
  have hc5 : (W1.alloc (.cells #[.int .i64 x.1, .int .i64 x.2] 71)).cell? ⟨C, 2, none⟩ = some v := cofr (h1.later (bal _)).hdr 2 _ rfl
  have hc4 : W1.drew.cell? ⟨C, 2, none⟩ = some v := hc2
  have HO := Lib.hid h2.row
  have HS := Lib.hid (al_src W1.drew x)
  have hbz : w.heap.size ≤ W1.heap.size := by rw [hbx]; exact Nat.le_of_lt hlt1
  have hx2 := (b2.block _ (lt_of_block hx1)).trans hx1
  have hb2 : Below w.heap.size w (W1.drew.alloc (.cells #[.int .i64 x.1, .int .i64 x.2] 71)) := by rw [hbx]; exact hb1.trans (b2.mono (by omega))
  have hbn : bx ∉ C :: bm :: blkV v := by
    have e1 := lt_of_block h.hdr
    have e2 := h.bm_lt
    intro e
    rcases List.mem_cons.1 e with e | e
    · omega
    · rcases List.mem_cons.1 e with e | e
      · omega
      · have := (h.own_ne e).2.2; omega
  have HT := Lib.hid (fun (wq : World) (v' : Value) (hg : (W1.drew.alloc (.cells #[.int .i64 x.1, .int .i64 x.2] 71)).grownBy wq v.ownBlock) (hr : PRow wq 71 v' (l ++ [x])) (hv : ∀ k ∈ blkV v', k ∈ blkV v ∨ (W1.drew.alloc (.cells #[.int .i64 x.1, .int .i64 x.2] 71)).heap.size ≤ k) =>
    show (QAt (wq.setCell ⟨C, 2, none⟩ v') C nm now v' bm (l ++ [x]) D ∧ Kept (C :: bm :: blkV v) w (wq.setCell ⟨C, 2, none⟩ v') ∧ (wq.setCell ⟨C, 2, none⟩ v').heap[bx]? = some (.cells #[.int .i64 x.1, .int .i64 x.2] 71 (0, 0)) ∧ ∀ k ∈ blkV v', k ∈ blkV v ∨ w.heap.size ≤ k) ∧ wq.cell? ⟨C, 2, none⟩ = some v ∧ wq.frozen? ⟨C, 2, none⟩ = false from by
    obtain ⟨q, k, c, f⟩ := h2.turn ((Kept.refl (blkV v) _).grown hg (fun k hk => .inl (by unfold blkV; rw [hk]; simp))) hr hv
    exact ⟨⟨q, (Kept.of_below hb2 (Nat.le_refl _) _).trans k (fun _ h => .inl h), k.heap hbn hx2, fun k hk => (hv k hk).imp id (fun e => Nat.le_trans hb2.size e)⟩, c, f⟩)
  clear h h1 h2 b2 hx1 hb1 HQ hbz hx2 hb2 hbn
  go_region_law ((refine step_append_sz _ rfl (.tmp 16) (.tmp 18) 56 56 rfl 0 71 i0 (.agg #[.int .i64 0, .int .i64 0]) 2 16 Try.underlying56 hi hz0 hz1 (by decide) hz2 rfl v l.length (cel l) rfl HO.out _ rfl 1 [.int .i64 x.1, .int .i64 x.2] HS.out (by unfold maxLen; omega) (by omega) (Nat.zero_le _) ?_; intro a' cap' wq ho hg hw; obtain ⟨qq, cq, fq⟩ := HT.out wq (.slice a' (l.length + 1) cap') hg (prow_snoc ho) (own_app hw); have HF := Lib.hid qq; clear qq ho hg hw))
  all_goals
    clear cq fq HT HS HO hc2 hc3 hc4 hc5
    generalize wq.setCell ⟨C, 2, none⟩ (.slice a' (l.length + 1) cap') = X2 at *
    obtain ⟨q, hk, hbx2, hv⟩ := HF.out
    have Q3 := q.later (Below.refl _ _).drew
    obtain ⟨w', hrun, Q4, K4⟩ := Q3.store (by rw [hP.size]; omega) x.1 l.length hxw (by omega)
    have hwr : IntKind.i64.wrap (l.length : Int) = (l.length : Int) := IntWalk.i64_in _ (by omega)
    have d2 := cofr q.hdr 2 _ rfl
    have d3 := cofr q.hdr 3 _ rfl
    have e0 := cofr hbx2 0 _ rfl
    have HG := Lib.hid (show QChg C nm now v bm (l ++ [x]) w w' from ⟨_, _, Q4, pl_push hP x hx, (hk.trans (Kept.of_below (Below.refl _ X2).drew (Nat.le_refl _) _) (fun _ h => .inl h)).trans K4 (fun k hk => .inl (by simp at hk; simp [hk])), hv⟩)
    clear q hk hbx2 hv Q3 Q4 K4 HF f4 f5
    go_wp2_with fail
    go_region_with (go_at_call 29; refine (len_list _ _ _ _).mono ?_; rintro e w2 ⟨rfl, rfl⟩)
    all_goals
      go_wp2_with fail
      go_end0
      exact ⟨rfl, HG.out⟩
/-- delete(m, k) as a step of a region that draws its order -/
theorem step_delete {w : World} {ops : Array Oper} {o : Oper} {a : Act} {K : Act → World → Prop} {Q : Exit → Act → World → Prop} {E : Prop} (hgd : o.guard = none) (m x : Operand)
    (ho : o.op = .call { callee := .builtin .delete, args := #[m, x], argTypes := #[57, 3] }) (b n : Nat) (D : DataW Unit) (hm : a.eval m = .map (some b)) (hown : MapAt w b n D) (key : Int) (hx : a.eval x = .int .i64 key)
    (hkw : -9223372036854775808 ≤ key ∧ key ≤ 9223372036854775807)
    (h : ∀ w', MapAt w' b n (D.del (kl key)) → w.grownBy w' (some b) → K (a.put o.dst (.tuple #[])) w') :
    if Region.wanted o (yielded ops a.tmps) = true then Oper.wp Try.prog o a w K Q else E := by
  have hw : Region.wanted o (yielded ops a.tmps) = true := by simp [Region.wanted, hgd]
  rw [if_pos hw]
  obtain ⟨w', hrun, r1, r2⟩ := hown.drop keyed Try.underlying57 (keyOf_int_mk Try.underlying3 (q := .i64) (a := key) (WalkArith.wf_i64 hkw)) o.type
  unfold Oper.wp execOp
  simp only [ho, resolve, invoke, builtin, Sem.run_bind, Sem.run_pure, Result.andThen_ok, List.map_toArray, List.map_cons, List.map_nil, hm, hx, hrun]
  exact h w' r1 r2.grown
/-- an entry is taken out of the map -/
theorem QAt.strike {w w' : World} {C : Nat} {nm now : Int} {v : Value} {bm : Nat} {l : List Al} {D D' : DataW Unit} (h : QAt w C nm now v bm l D) (hm : MapAt w' bm (Maps.size D) D') (hg : w.grownBy w' (some bm)) : QAt w' C nm now v bm l D' ∧ Kept [bm] w w' := by
  have k : Kept [bm] w w' := (Kept.refl [bm] w).grown hg (fun k hk => .inl (by cases hk; simp))
  refine ⟨⟨k.heap (by simpa using h.ne1.symm) h.hdr, h.row.step (fun k' o hk' ho => k.heap (by
    have := (h.own_ne (b := k') (by unfold blkV; rw [hk']; simp)).2.1
    simpa using this) ho), map_tight hm⟩, k⟩
end Go.Proofs.Ytnioaaahkhephaa.al
