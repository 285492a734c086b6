/-
  Alarms: Clone.
-/
import Derived.Test.YtnioaaahkhephaaAlmF
import Derived.Shelf.SlMaps.Clone
namespace Go.Proofs.Ytnioaaahkhephaa.al
open Go.RowKit Go.Maps aid mem
attribute [local go_sem ↓] Go.wp_at_zero Go.wp_at_succ
set_option linter.unusedVariables false
set_option linter.unusedSimpArgs false

/-- a row that is one's own, new -/
def RetL (l : List Al) (w : World) (e : Ending) (w' : World) : Prop := ∃ v, e = .returned v ∧ PRow w' 71 v l ∧ Below w.heap.size w w' ∧ ∀ b ∈ blkV v, w.heap.size ≤ b
theorem prow_empty {w : World} {b : Nat} {o : Obj} (h : w.heap[b]? = some (.cells #[] 71 (0, 0))) : w.ownsRow b 71 2 (.slice (some ⟨b, 0, none⟩) 0 0) 0 [] :=
  ⟨rfl, .inr ⟨b, 0, #[], rfl, Nat.le_refl _, h, Nat.le_refl _, by simp [maxLen], rfl, rfl⟩⟩
set_option maxHeartbeats 2000000 in
theorem sclone_any {w : World} {v : Value} {l : List Al} (h : PRow w 71 v l) (hn2 : l.length ≤ 1000000000) : Calls Try.prog 33 #[v] w (RetL l w) := by
  obtain ⟨i0, hi, hz0, hz1, hz2⟩ := info_split info_alarm
  have hl := h.1
  rcases h.2 with ⟨rfl, h0⟩ | ⟨b, cap, cur, rfl, _, hg, hle, hm, hcs, hxs⟩
  · obtain rfl : l = [] := List.eq_nil_of_length_eq_zero h0
    have HF := Lib.hid (show RetL [] w (.returned (.slice none 0 0)) w from ⟨_, rfl, World.ownsRow_nil _ _ _ _, Below.refl _ _, fun b hb => by simp [blkV, Value.ownBlock] at hb⟩)
    have he : ∀ w : World, (binOp .eql 56 (.slice none 0 0) (.slice none 0 0)).run Try.prog w = .ok (.bool true) w := fun _ => rfl
    clear h
    go_enter Try.func33, Try.ntmps33
    go_wp2
    go_ret
    exact HF.out
  · have he : ∀ w : World, (binOp .eql 56 (.slice (some ⟨b, 0, none⟩) l.length cap) (.slice none 0 0)).run Try.prog w = .ok (.bool false) w := fun _ => rfl
    have HO := Lib.hid (prow_empty (o := .cells #[] 71) (heap_alloc_new w (.cells #[] 71)))
    have bb := bal (w := w) (.cells #[] 71)
    have hg2 := (bb.block _ (lt_of_block hg)).trans hg
    have HS := Lib.hid (show Src Try.prog 2 56 (.slice (some ⟨b, 0, none⟩) l.length cap) l.length (cel l) (w.alloc (.cells #[] 71)) from
      Src.ofSlice (P := Try.prog) (size := 2) _ Try.underlying56 ⟨b, 0, none⟩ l.length cap (cel l) hl (by
        intro j u hu
        have e := cell_of_row _ b j cur _ (0, 0) hg2
        have : cur[j]? = some u := by
          have h1 : j < (cel l).length := (List.getElem?_eq_some_iff.1 hu).1
          rw [← hxs, List.getElem?_take, if_pos (by omega)] at hu
          simpa using hu
        have e2 : Addr.add ⟨b, 0, none⟩ j = ⟨b, j, none⟩ := by cases j <;> simp [Addr.add]
        rw [e2]
        exact e.trans this) (cel_one l))
    have HB := Lib.hid bb
    clear h hg hcs hxs bb hg2
    go_enter Try.func33, Try.ntmps33
    go_wp2_with (at_builtin; go_must (refine wpList_append_sz _ rfl (.tmp 5) (.tmp 6) 56 56 rfl w.heap.size 71 i0 (.agg #[.int .i64 0, .int .i64 0]) 2 16 Try.underlying56 hi hz0 hz1 (by decide) hz2 rfl _ 0 [] rfl HO.out _ rfl l.length (cel l) HS.out (by unfold maxLen; omega) (by omega) (by simp) ?_); intro a' cap' w3 hrow hgr hat)
    go_ret
    refine ⟨_, rfl, ?_, HB.out.trans (below_grown hgr (by simp) (fun k hk => by cases hk; exact Nat.le_refl _)), fun k hk => ?_⟩
    · obtain ⟨h1, h2⟩ := hrow
      refine ⟨by simpa using h1, ?_⟩
      rcases h2 with ⟨e1, e2⟩ | ⟨g, c2, cu, e1, e2, e3, e4, e5, e6, e7⟩
      · exact .inl ⟨by simpa using e1, by omega⟩
      · exact .inr ⟨g, c2, cu, by simpa using e1, Nat.zero_le _, e3, by omega, e5, e6, by simpa using e7⟩
    · have e : Value.ownBlock (.slice a' (0 + l.length) cap') = some k := by
        unfold blkV at hk
        cases a' with
        | none => simp [Value.ownBlock] at hk
        | some x => simp [Value.ownBlock] at hk; rw [hk]; rfl
      exact (own_in hrow e).2
set_option maxHeartbeats 2000000 in
theorem mclone_any {w : World} {b n : Nat} {D : DataW Unit} (h : MapAt w b n D) :
    Calls Try.prog 34 #[.map (some b)] w (fun e w' => e = .returned (.map (some w.heap.size)) ∧ MapAt w' w.heap.size n D ∧ Below w.heap.size w w') := by
  obtain ⟨es, clock, hb, F, hs, hD⟩ := h
  have hq := fun w => run_eql_map_nil_sl (P := Try.prog) w 57 _ _ (some b) Try.underlying57
  have HF := Lib.hid (show MapAt (w.alloc (.map es clock)) w.heap.size n D ∧ Below w.heap.size w (w.alloc (.map es clock)) from ⟨⟨es, clock, (MapKept.heap_alloc w _).1, F, hs, hD⟩, bal _⟩)
  clear F hs hD
  go_enter Try.func34, Try.ntmps34
  go_wp2
  rw [run_callFunc_extern Try.func38 (by kernel_rfl) (by kernel_rfl) (by kernel_rfl) (e := Extern.MapsClone.clone) (by kernel_rfl), run_maps_clone_sl w 57 hb]
  simp only [Result.andThen]
  rw [Oper.upon_value]
  go_wp2
  rw [run_typeAssert_map_sl _ 57 20 _ _ _ Try.underlying57]
  simp only [Result.andThen]
  rw [Oper.upon_value]
  go_wp2
  go_ret
  exact ⟨rfl, HF.out⟩
/-- between the two calls -/
structure QS (w : World) (C bx : Nat) (v : Value) (bm : Nat) (X : World) : Prop where
  below : Below w.heap.size w X
  c2 : X.cell? ⟨C, 2, none⟩ = some v
  c3 : X.cell? ⟨C, 3, none⟩ = some (.map (some bm))
  bx : X.heap[bx]? = some (.cells #[.slice none 0 0, .map none] 59 (0, 0))
theorem QS.later {w : World} {C bx : Nat} {v : Value} {bm : Nat} {X Y : World} (h : QS w C bx v bm X) (hb : Below X.heap.size X Y) : QS w C bx v bm Y :=
  ⟨h.below.trans (hb.mono h.below.size), (hb.cell (World.block_lt_of_cell? X _ h.c2)).trans h.c2, (hb.cell (World.block_lt_of_cell? X _ h.c3)).trans h.c3, (hb.block _ (lt_of_block h.bx)).trans h.bx⟩
def QClP (l : List Al) (D : DataW Unit) (w : World) (e : Ending) (w' : World) : Prop :=
  ∃ v' b', e = .returned (.agg #[v', .map (some b')]) ∧ PRow w' 71 v' l ∧ MapAt w' b' (Maps.size D) D ∧ Below w.heap.size w w' ∧ (∀ b ∈ blkV v', w.heap.size ≤ b) ∧ w.heap.size ≤ b'
set_option maxRecDepth 100000 in
set_option maxHeartbeats 4000000 in
theorem qclone_any {w : World} {C : Nat} {nm now : Int} {v : Value} {bm : Nat} {l : List Al} {D : DataW Unit} (h : QAt w C nm now v bm l D) (hl : l.length ≤ 1000000) :
    Calls Try.prog 22 #[.pointer (some ⟨C, 2, none⟩)] w (QClP l D w) := by
  have HS := Lib.hid (fun X (hb : Below w.heap.size w X) => sclone_any (w := X) (own_later h.row hb) (show l.length ≤ 1000000000 by omega))
  have HM := Lib.hid (fun X (hb : Below w.heap.size w X) => mclone_any (w := X) (h.later hb).map)
  have bb := bal (w := w) (.cells #[.slice none 0 0, .map none] 59)
  have d2 := cofr h.hdr 2 _ rfl
  have d3 := cofr h.hdr 3 _ rfl
  have S0 : QS w C w.heap.size v bm (w.alloc (.cells #[.slice none 0 0, .map none] 59)).drew :=
    ⟨bb.drew, (bb.drew.cell (World.block_lt_of_cell? w _ d2)).trans d2, (bb.drew.cell (World.block_lt_of_cell? w _ d3)).trans d3, heap_alloc_new w _⟩
  have c2 := S0.c2
  have c3 := S0.c3
  have hCl : C < w.heap.size := lt_of_block h.hdr
  have hne : C ≠ w.heap.size := by omega
  have hne2 : w.heap.size ≠ C := by omega
  clear h bb d2 d3
  go_enter Try.func22, Try.ntmps22
  go_wp2_with fail
  go_region_held3 (fun w' => w'.cell? ⟨C, 2, none⟩ = some v ∧ w'.cell? ⟨C, 3, none⟩ = some (.map (some bm))) (with_reducible first | exact ⟨S2.c2, S2.c3⟩ | exact ⟨S1.c2, S1.c3⟩ | exact ⟨S0.c2, S0.c3⟩ | go_keep) (first
    | (go_at_call 33; (with_reducible refine (HS.out _ S0.below).mono ?_); rintro e w1 ⟨v1, rfl, hr1, hb1, hv1⟩; obtain ⟨a1, cap1, rfl⟩ := prow_slice hr1; have S1 := S0.later hb1; have hz1 := S0.below.size; clear S0)
    | (go_at_call 34; (with_reducible refine (HM.out _ S1.below).mono ?_); rintro e w2 ⟨rfl, hm2, hb2⟩; have S2 := S1.later hb2; have x0 := cofr S2.bx 0 _ rfl; have x1 := cofr S2.bx 1 _ rfl; have f0 := fofr S2.bx 0; have f1 := fofr S2.bx 1; have y2 := S2.c2; have y3 := S2.c3; have hz2 := S1.below.size; have hr2 : PRow w2 71 (.slice a1 l.length cap1) l := own_later hr1 hb2; clear S1))
  clear HS HM
  have hx2 : ((w2.setCell ⟨w.heap.size, 0, none⟩ (.slice a1 l.length cap1)).setCell ⟨w.heap.size, 1, none⟩ (.map (some w1.heap.size))).heap[w.heap.size]? = some (.cells #[.slice a1 l.length cap1, .map (some w1.heap.size)] 59 (0, 0)) :=
    (heap_setCell_same _ _ _ _ _ _ ((heap_setCell_same w2 _ 0 _ _ _ S2.bx).trans rfl)).trans rfl
  have kk : Kept [w.heap.size] w2 ((w2.setCell ⟨w.heap.size, 0, none⟩ (.slice a1 l.length cap1)).setCell ⟨w.heap.size, 1, none⟩ (.map (some w1.heap.size))) := ((Kept.refl [w.heap.size] w2).setCell (.inl (by simp)) _).setCell (.inl (by simp)) _
  have hn1 : w1.heap.size ≠ w.heap.size := by have := S2.bx; have := hb1.size; simp at this; omega
  have hn2 : ∀ k, Value.ownBlock (.slice a1 l.length cap1) = some k → k ≠ w.heap.size := fun k hk e => by
    have := hv1 k (by unfold blkV; rw [hk]; simp)
    simp at this; omega
  have HF := Lib.hid (show QClP l D w (.returned (.agg #[.slice a1 l.length cap1, .map (some w1.heap.size)])) ((w2.setCell ⟨w.heap.size, 0, none⟩ (.slice a1 l.length cap1)).setCell ⟨w.heap.size, 1, none⟩ (.map (some w1.heap.size))) from
    ⟨_, _, rfl, hr2.step (fun k o hk ho => kk.heap (by simpa using hn2 k hk) ho), map_block hm2 (fun o ho => kk.heap (by simpa using hn1) ho), S2.below.trans (kk.below (B := w.heap.size) (fun k hk => by simp at hk; omega) S2.below.size), fun b hb => by have := hv1 b hb; simp at this; omega, by simpa using hz2⟩)
  have e0 := cofr hx2 0 _ rfl
  have e1 := cofr hx2 1 _ rfl
  clear hx2 kk hn1 hn2 S2 hr1 hr2 hm2 hb1 hb2 hv1
  go_wp2
  exact bodyPost_ret (v := .agg #[.slice a1 l.length cap1, .map (some w1.heap.size)]) (by simp [results, Try.results22, go_sem, e0, e1]) rfl HF.out
def CloneP (nm now : Int) (l : List Al) (w : World) (e : Ending) (w' : World) : Prop :=
  ∃ C S, e = .returned (.pointer (some ⟨C, 0, none⟩)) ∧ Ck C nm now l S w' ∧ Below w.heap.size w w' ∧ ∀ b ∈ S, w.heap.size ≤ b
theorem cclone_nil (w : World) : Calls Try.prog 10 #[.pointer none] w fun e w' => e = .returned (.pointer none) ∧ w = w' := by
  go_enter Try.func10, Try.ntmps10
  go_wp2
  go_ret
  exact ⟨rfl, rfl⟩
set_option maxHeartbeats 2000000 in
theorem cclone_any (w : World) {C : Nat} {nm now : Int} {l : List Al} {S : List Nat} (h : Ck C nm now l S w) (hl : l.length ≤ 80000) :
    Calls Try.prog 10 #[.pointer (some ⟨C, 0, none⟩)] w (CloneP nm now l w) := by
  obtain ⟨v, bm, D, q, p, hh, rfl⟩ := h
  have HC := Lib.hid (fun W (hb : Below w.heap.size w W) => qclone_any (q.later hb) (show l.length ≤ 1000000 by omega))
  have c0 := cofr q.hdr 0 _ rfl
  have c1 := cofr q.hdr 1 _ rfl
  have HK := Lib.hid (fun W (hb : Below w.heap.size w W) => show W.cell? ⟨C, 0, none⟩ = some (.int .i64 nm) ∧ W.cell? ⟨C, 1, none⟩ = some (.int .i64 now) from ⟨(hb.cell (World.block_lt_of_cell? w _ c0)).trans c0, (hb.cell (World.block_lt_of_cell? w _ c1)).trans c1⟩)
  have HP := Lib.hid (And.intro p hh)
  clear q p hh
  go_enter Try.func10, Try.ntmps10
  go_wp2_with fail
  go_region_held3 (fun w' => w'.cell? ⟨C, 0, none⟩ = some (.int .i64 nm) ∧ w'.cell? ⟨C, 1, none⟩ = some (.int .i64 now)) (first | go_keep | with_reducible exact HK.out _ hb1)
    ((go_at_call 22; (with_reducible refine (HC.out _ (Below.refl _ _).drew).mono ?_); rintro e w1 ⟨v1, b1, rfl, hr1, hm1, hb1, hv1, hb2⟩; obtain ⟨a1, cap1, rfl⟩ := prow_slice hr1; replace hb1 := (Below.refl w.heap.size w).drew.trans hb1))
  have bb := bal (w := w1) (.cells #[.int .i64 nm, .int .i64 now, .slice a1 l.length cap1, .map (some b1)] 62)
  have HF := Lib.hid (show CloneP nm now l w (.returned (.pointer (some ⟨w1.heap.size, 0, none⟩))) (w1.alloc (.cells #[.int .i64 nm, .int .i64 now, .slice a1 l.length cap1, .map (some b1)] 62)) from
    ⟨_, _, rfl, ⟨_, b1, D, ⟨heap_alloc_new w1 _, own_later hr1 bb, map_block hm1 (fun o ho => (bb.block _ hm1.lt).trans ho)⟩, HP.out.1, HP.out.2, rfl⟩, hb1.trans (bb.mono hb1.size), fun b hb => by
      rcases List.mem_cons.1 hb with rfl | hb
      · exact hb1.size
      · rcases List.mem_cons.1 hb with rfl | hb
        · exact hb2
        · exact hv1 b hb⟩)
  clear hr1 hm1 hb1 hv1 hb2 bb HC HK HP
  go_wp2
  go_ret
  exact HF.out
end Go.Proofs.Ytnioaaahkhephaa.al
