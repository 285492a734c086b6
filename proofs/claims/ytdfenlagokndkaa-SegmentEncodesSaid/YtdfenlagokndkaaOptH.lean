/-
  Package option: Clone.
-/
import Derived.Test.YtdfenlagokndkaaOptB
import Derived.Test.YtdfenlagokndkaaOptW
namespace Go.Proofs.Ytdfenlagokndkaa.op
open Go.RowKit aid mem oc
set_option linter.unusedVariables false

section
variable {P : Program} (w : World)
theorem run_append_nil (sz : Nat) (t tx ty : TypeId) (base : Nat) (e : TypeId) (i : TypeInfo) (z : Value) (bytes : Nat) (ht : P.underlying t = some (.slice e)) (hi : P.info? e = some i) (hz : i.zero = some z)
    (hsize : i.size = sz) (hby : i.bytes = bytes) (hzs : z.cells.size = sz)
    (x : Value) (m : Nat) (news : List Value) (hs : Src P sz tx x m news w)
    (h63 : m ≤ maxLen) (hbytes : m * bytes ≤ 140737488355328) (hbase : base ≤ w.heap.size) :
    ∃ v' w', (Builtin.append_ #[t, tx] ty #[.slice none 0 0, x]).run P w = .ok v' w' ∧ w'.ownsRow base e sz v' m news ∧ Below w.heap.size w w' := by
  have hnl : news.length = m * sz := hs.newsLen
  have h63' : ((0 + m : Nat) : Int) ≤ 9223372036854775807 := by unfold maxLen at h63; omega
  have hs' : Src P i.size tx x m news w := by rw [hsize]; exact hs
  by_cases hm : m = 0
  · subst hm
    obtain rfl : news = [] := List.eq_nil_of_length_eq_zero (by omega)
    refine ⟨.slice none 0 0, w, ?_, World.ownsRow_nil w base e sz, Below.refl _ _⟩
    have hc := hs'.cells
    rcases hs.kind with ⟨e', hk⟩ | hk <;> simp [Builtin.append_, run_underlying ht, run_underlying hk, sizeOf, typeInfo, hi, hs.len, hc]
  · have hr := run_append_grow_src (P := P) w t tx ty e i z ht hi hz none 0 0 [] (run_firstCells_none w.drew i.size 0 0 0) x m news hs' (by omega) h63' (by rw [hby, Nat.zero_add]; exact growslice_fits (by omega) hbytes)
    simp only [Nat.zero_add, List.nil_append] at hr
    refine ⟨_, _, hr, ⟨by simp [hnl], .inr ⟨w.heap.size, _, _, rfl, hbase, heap_alloc_new w.drew _, ?_, grownCap_le_maxLen _ _ _ _ h63, ?_, ?_⟩⟩, ?_⟩
    · exact grownCap_ge w m 0 e
    · have hge := grownCap_ge w m 0 e
      simp only [Array.size_append, List.size_toArray, size_zeroCells, hzs, hnl]
      rw [← Nat.add_mul]
      congr 1
      omega
    · simp only [Array.toList_append]
      rw [show m * sz = news.length from hnl.symm]
      exact List.take_left
    · exact ((Below.refl _ _).drew).alloc (by simp) _
theorem wpList_append_nil {ops : Array Oper} {rest : List Oper} {o : Oper} {a : Act} {Q : Exit → Act → World → Prop} (hgd : o.guard = none) (s x : Operand) (t tx : TypeId)
    (ho : o.op = .call { callee := .builtin .append, args := #[s, x], argTypes := #[t, tx] })
    (sz base : Nat) (e : TypeId) (i : TypeInfo) (z : Value) (bytes : Nat) (ht : P.underlying t = some (.slice e)) (hi : P.info? e = some i) (hz : i.zero = some z)
    (hsize : i.size = sz) (hby : i.bytes = bytes) (hzs : z.cells.size = sz)
    (hsv : a.eval s = .slice none 0 0) (xv : Value) (hx : a.eval x = xv) (m : Nat) (news : List Value) (hs : Src P sz tx xv m news w)
    (h63 : m ≤ maxLen) (hbytes : m * bytes ≤ 140737488355328) (hbase : base ≤ w.heap.size)
    (h : ∀ a' cap' w', w'.ownsRow base e sz (.slice a' m cap') m news → Below w.heap.size w w' → wpList P ops Q rest (a.put o.dst (.slice a' m cap')) w') : wpList P ops Q (o :: rest) a w :=
  wpList_plain hgd fun _ hK => by
    obtain ⟨v', w', hr, h2, h3⟩ := run_append_nil (P := P) w sz t tx o.type base e i z bytes ht hi hz hsize hby hzs xv m news hs h63 hbytes hbase
    unfold Oper.wp execOp
    obtain ⟨a', cap', rfl⟩ := own_form h2
    simp only [ho, resolve, invoke, builtin, Sem.run_bind, Sem.run_pure, Result.andThen_ok, List.map_toArray, List.map_cons, List.map_nil, hsv, hx, hr]
    exact hK _ _ (h a' cap' w' h2 h3)
end

theorem BlA.src {P : Program} {w : World} {a : Option Addr} {n cap : Nat} {l : List (Int × Int)} (h : BlA w a n cap l) {t e : TypeId} (ht : P.underlying t = some (.slice e)) :
    Src P 2 t (.slice a n cap) n (blCells l) w := by
  have hll := h.len
  have h1 : ∀ u ∈ blCells l, u.oneCell' = true := by
    intro u hu
    obtain ⟨q, _, hq⟩ := List.mem_flatMap.1 hu
    simp only [List.mem_cons, List.not_mem_nil, or_false] at hq
    rcases hq with rfl | rfl <;> rfl
  have hl : (blCells l).length = n * 2 := by rw [blCells_len, hll]
  cases a with
  | none =>
    have h0 : cap = 0 := h.nil rfl
    have hle := h.le
    have hn : n = 0 := by omega
    obtain rfl : l = [] := List.eq_nil_of_length_eq_zero (by omega)
    subst hn
    exact Src.ofNil w ht cap
  | some x =>
    refine Src.ofSlice w ht x n cap _ hl ?_ h1
    intro j u hu
    have hj : j < n * 2 := by have := (List.getElem?_eq_some_iff.1 hu).1; omega
    obtain ⟨b, off, hx, hc⟩ := h.cells (by omega)
    obtain rfl : x = ⟨b, off, none⟩ := by injection hx
    have hadd : (⟨b, off, none⟩ : Addr).add j = ⟨b, off + j, none⟩ := by unfold Addr.add; split <;> simp_all
    rw [hadd]
    have hat := blCells_at l (j / 2) (by omega)
    have hcc := hc (j / 2) (by omega)
    rcases Nat.mod_two_eq_zero_or_one j with h0 | h0
    · have hj2 : j / 2 * 2 = j := by omega
      rw [hj2] at hat hcc
      rw [hcc.1, ← hat.1, hu]
    · have hj2 : j / 2 * 2 + 1 = j := by omega
      rw [hj2] at hat
      have hj3 : off + j / 2 * 2 + 1 = off + j := by omega
      rw [hj3] at hcc
      rw [hcc.2, ← hat.2, hu]

set_option maxHeartbeats 800000 in
theorem clone_fresh (o : Opt) (a : Option Addr) (n cap : Nat) (w : World) (hbl : BlA w a n cap o.bl) (hby : n * 8 ≤ 140737488355328) :
    Calls Try.prog 50 #[.agg (optCells o a n cap)] w fun e w' => ∃ a' cap', e = .returned (.agg (optCells o a' n cap')) ∧ BlA w' a' n cap' o.bl ∧ Below w.heap.size w w' ∧ ∀ x, a' = some x → w.heap.size ≤ x.block := by
  have hbox := opt_new w o a n cap 25
  have hbl1 := hbl.later ((Below.refl _ _).alloc (Nat.le_refl _) (.cells (optCells o a n cap) 25))
  have hb1 : Below w.heap.size w (w.alloc (.cells (optCells o a n cap) 25)) := (Below.refl _ _).alloc (Nat.le_refl _) _
  unfold optCells at hbox hbl1 hb1 ⊢
  obtain ⟨i0, hi, hz0, hz1, hz2⟩ := info_parts info_bl
  have hbl2 := hbl1.later ((Below.refl _ _).alloc (Nat.le_refl _) (.cells #[Value.int .i64 0, Value.bool false, Value.bool false, Value.int .u32 0, Value.int .u32 0, Value.bool false, Value.int .i64 0, Value.slice none 0 0] 25))
  have hb2 := hb1.alloc hb1.size (.cells #[Value.int .i64 0, Value.bool false, Value.bool false, Value.int .u32 0, Value.int .u32 0, Value.bool false, Value.int .i64 0, Value.slice none 0 0] 25)
  have hbox2 := hbox.keep ((Kept.refl [] _).alloc (.cells #[Value.int .i64 0, Value.bool false, Value.bool false, Value.int .u32 0, Value.int .u32 0, Value.bool false, Value.int .i64 0, Value.slice none 0 0] 25)) (by simp)
  have hgA : ((w.alloc (.cells #[Value.int .i64 o.mss, .bool o.permit, .bool o.ts, .int .u32 o.val, .int .u32 o.ecr, .bool o.hs, .int .i64 o.scale, .slice a n cap] 25)).alloc (.cells #[Value.int .i64 0, Value.bool false, Value.bool false, Value.int .u32 0, Value.int .u32 0, Value.bool false, Value.int .i64 0, Value.slice none 0 0] 25)).heap[w.heap.size]? = some (.cells #[Value.int .i64 o.mss, .bool o.permit, .bool o.ts, .int .u32 o.val, .int .u32 o.ecr, .bool o.hs, .int .i64 o.scale, .slice a n cap] 25) := ((Kept.refl [] _).alloc (.cells #[Value.int .i64 0, Value.bool false, Value.bool false, Value.int .u32 0, Value.int .u32 0, Value.bool false, Value.int .i64 0, Value.slice none 0 0] 25)).heap (by simp) (heap_alloc_new w _)
  have hgB : ((w.alloc (.cells #[Value.int .i64 o.mss, .bool o.permit, .bool o.ts, .int .u32 o.val, .int .u32 o.ecr, .bool o.hs, .int .i64 o.scale, .slice a n cap] 25)).alloc (.cells #[Value.int .i64 0, Value.bool false, Value.bool false, Value.int .u32 0, Value.int .u32 0, Value.bool false, Value.int .i64 0, Value.slice none 0 0] 25)).heap[w.heap.size + 1]? = some (.cells #[Value.int .i64 0, Value.bool false, Value.bool false, Value.int .u32 0, Value.int .u32 0, Value.bool false, Value.int .i64 0, Value.slice none 0 0] 25) := by
    have := heap_alloc_new (w.alloc (.cells #[Value.int .i64 o.mss, .bool o.permit, .bool o.ts, .int .u32 o.val, .int .u32 o.ecr, .bool o.hs, .int .i64 o.scale, .slice a n cap] 25)) (.cells #[Value.int .i64 0, Value.bool false, Value.bool false, Value.int .u32 0, Value.int .u32 0, Value.bool false, Value.int .i64 0, Value.slice none 0 0] 25)
    simpa using this
  have hmost := hbl.most
  have hle := hbl.le
  clear hbl hbl1 hbox hb1
  go_enter Try.func50, Try.ntmps50
  go_wp2_with (at_builtin; refine wpList_append_nil _ rfl (.const (.slice none 0 0)) (.tmp 4) 23 23 rfl 2 (w.heap.size + 2) 99 i0 (.agg #[.int .u32 0, .int .u32 0]) 8 Try.underlying23 hi hz0 hz1 hz2 rfl rfl (.slice a n cap) rfl n (blCells o.bl) (hbl2.src Try.underlying23) (by omega) (by omega) (by simp) ?_; intro a3 c3 w3 own3 hB3; obtain ⟨d0, d1, d2, d3, d4, d5, d6, d7⟩ := hbox2.keep (Kept.of_below hB3 (Nat.le_refl _) []) (by simp); have k1 := (Kept.of_below hB3 (Nat.le_refl _) []).heap (by simp) hgA; have k2 := (Kept.of_below hB3 (Nat.le_refl _) []).heap (by simp) hgB; have f7 : w3.frozen? ⟨w.heap.size, 7, none⟩ = false := (by simp [World.frozen?, k1]); have r0 := (cell_of_row w3 (w.heap.size + 1) 0 _ _ (0, 0) k2).trans (show _ = some _ from rfl); have g0 : w3.frozen? ⟨w.heap.size + 1, 0, none⟩ = false := (by simp [World.frozen?, k2]); have r1 := (cell_of_row w3 (w.heap.size + 1) 1 _ _ (0, 0) k2).trans (show _ = some _ from rfl); have g1 : w3.frozen? ⟨w.heap.size + 1, 1, none⟩ = false := (by simp [World.frozen?, k2]); have r2 := (cell_of_row w3 (w.heap.size + 1) 2 _ _ (0, 0) k2).trans (show _ = some _ from rfl); have g2 : w3.frozen? ⟨w.heap.size + 1, 2, none⟩ = false := (by simp [World.frozen?, k2]); have r3 := (cell_of_row w3 (w.heap.size + 1) 3 _ _ (0, 0) k2).trans (show _ = some _ from rfl); have g3 : w3.frozen? ⟨w.heap.size + 1, 3, none⟩ = false := (by simp [World.frozen?, k2]); have r4 := (cell_of_row w3 (w.heap.size + 1) 4 _ _ (0, 0) k2).trans (show _ = some _ from rfl); have g4 : w3.frozen? ⟨w.heap.size + 1, 4, none⟩ = false := (by simp [World.frozen?, k2]); have r5 := (cell_of_row w3 (w.heap.size + 1) 5 _ _ (0, 0) k2).trans (show _ = some _ from rfl); have g5 : w3.frozen? ⟨w.heap.size + 1, 5, none⟩ = false := (by simp [World.frozen?, k2]); have r6 := (cell_of_row w3 (w.heap.size + 1) 6 _ _ (0, 0) k2).trans (show _ = some _ from rfl); have g6 : w3.frozen? ⟨w.heap.size + 1, 6, none⟩ = false := (by simp [World.frozen?, k2]); have r7 := (cell_of_row w3 (w.heap.size + 1) 7 _ _ (0, 0) k2).trans (show _ = some _ from rfl); have g7 : w3.frozen? ⟨w.heap.size + 1, 7, none⟩ = false := (by simp [World.frozen?, k2]); clear hbox2 hgA hgB k1 k2 hbl2)
  have hK : Kept [w.heap.size, w.heap.size + 1] w3 _ := (((((((((Kept.refl _ w3).setCell (p := ⟨w.heap.size, 7, none⟩) (.inl (by simp)) (.slice a3 n c3)).setCell (p := ⟨w.heap.size + 1, 0, none⟩) (.inl (by simp)) (.int .i64 o.mss)).setCell (p := ⟨w.heap.size + 1, 1, none⟩) (.inl (by simp)) (.bool o.permit)).setCell (p := ⟨w.heap.size + 1, 2, none⟩) (.inl (by simp)) (.bool o.ts)).setCell (p := ⟨w.heap.size + 1, 3, none⟩) (.inl (by simp)) (.int .u32 o.val)).setCell (p := ⟨w.heap.size + 1, 4, none⟩) (.inl (by simp)) (.int .u32 o.ecr)).setCell (p := ⟨w.heap.size + 1, 5, none⟩) (.inl (by simp)) (.bool o.hs)).setCell (p := ⟨w.heap.size + 1, 6, none⟩) (.inl (by simp)) (.int .i64 o.scale)).setCell (p := ⟨w.heap.size + 1, 7, none⟩) (.inl (by simp)) (.slice a3 n c3)
  obtain ⟨a4, c4, hv, hbl4, hob⟩ := bl_of_own own3
  injection hv with hv1 hv2 hv3
  subst hv1 hv3
  have hB := hb2.trans (hB3.mono (by simp; omega))
  refine bodyPost_ret (v := .agg #[.int .i64 o.mss, .bool o.permit, .bool o.ts, .int .u32 o.val, .int .u32 o.ecr, .bool o.hs, .int .i64 o.scale, .slice a3 n c3]) (by simp [results, Try.results50, go_sem, r0, r1, r2, r3, r4, r5, r6, r7]) rfl ⟨a3, c3, rfl, hbl4.keep hK ?_, hB.trans (hK.below (by intro k hk; simp at hk; omega) hB.size), fun x hx => by have h1 := own3.lt _ (hob x hx); omega⟩
  intro x hx _ hm
  have h1 := own3.lt _ (hob x hx)
  simp at hm
  omega
theorem clone_any (o : Opt) (a : Option Addr) (n cap : Nat) (w : World) (hbl : BlA w a n cap o.bl) (hby : n * 8 ≤ 140737488355328) :
    Calls Try.prog 50 #[.agg (optCells o a n cap)] w fun e w' => ∃ a' cap', e = .returned (.agg (optCells o a' n cap')) ∧ BlA w' a' n cap' o.bl ∧ Below w.heap.size w w' :=
  (clone_fresh o a n cap w hbl hby).mono fun e w' ⟨a', cap', h1, h2, h3, _⟩ => ⟨a', cap', h1, h2, h3⟩
end Go.Proofs.Ytdfenlagokndkaa.op
