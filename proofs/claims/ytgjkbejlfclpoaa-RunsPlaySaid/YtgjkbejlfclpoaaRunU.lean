/-
  The law's list of all (told).
-/
import Derived.Test.YtgjkbejlfclpoaaRunI
import Derived.Test.YtgjkbejlfclpoaaApp
import Derived.Test.YtgjkbejlfclpoaaSpnE
namespace Go.Proofs.Ytgjkbejlfclpoaa.rn
open Go.RowKit Go.Shelf aid mem rng sp
attribute [local go_sem] Oper.semAt_some
set_option linter.unusedVariables false
set_option linter.unusedSimpArgs false

/-- a list of pairs is handed back, in memory of its own -/
def Told (L : List Sp) (w : World) (e : Ending) (W' : World) : Prop :=
  ∃ v, e = .returned v ∧ W'.ownsRow w.heap.size 24 2 v L.length (spCells L) ∧ Below w.heap.size w W'
/-- between two rounds: n0: the heap's size ahead; B: the list's box -/
def ToldI (w : World) (B : Nat) (pre : List Sp) (C : Nat → Prop) (W : World) : Prop :=
  ∃ v, W.heap[B]? = some (.cells #[v] 28 (0, 0)) ∧ C B ∧ W.ownsRow w.heap.size 24 2 v pre.length (spCells pre) ∧ (∀ k, v.ownBlock = some k → C k ∧ k ≠ B) ∧ Below w.heap.size w W
theorem told_bears (w : World) (B n : Nat) (hn : w.heap.size ≤ n) : Bears n (ToldI w B) := by
  rintro s C X Y ⟨v, h1, h2, h3, h4, h5⟩ hz hs
  exact ⟨v, hs.heap (.inr h2) h1, h2, own_step h3 (fun k o hk ho => hs.heap (.inr (h4 k hk).1) ho), h4, h5.trans (hs.below (by omega) (fun k hk => .inl (by omega)))⟩
/-- a round's end -/
theorem told_next {w X X1 w1 : World} {B : Nat} {pre : List Sp} {x : Sp} {C : Nat → Prop} {v v' : Value} (h1 : X.heap[B]? = some (.cells #[v] 28 (0, 0))) (h2 : C B) (h4 : ∀ k, v.ownBlock = some k → C k ∧ k ≠ B) (h5 : Below w.heap.size w X)
    (hb : w.heap.size ≤ B) (hX : X1 = X.alloc (.cells #[.int .i64 x.1, .int .i64 x.2] 24))
    (ho : w1.ownsRow w.heap.size 24 2 v' (pre.length + 1) (spCells pre ++ [.int .i64 x.1, .int .i64 x.2])) (hg : X1.grownBy w1 v.ownBlock) (hw : v'.ownBlock = v.ownBlock ∨ v'.ownBlock = some X1.heap.size)
    (hvb : ∀ k, v.ownBlock = some k → w.heap.size ≤ k) :
    ∃ C', Round C X C' (w1.setCell ⟨B, 0, none⟩ v') ∧ ToldI w B (pre ++ [x]) C' (w1.setCell ⟨B, 0, none⟩ v') := by
  have hz : X1.heap.size = X.heap.size + 1 := by rw [hX]; simp
  have b1 : Below X.heap.size X X1 := by rw [hX]; exact bal (w := X) _
  have hBX := lt_of_block h1
  have nB : v.ownBlock ≠ some B := fun e => (h4 B e).2 rfl
  have hB1 : w1.heap[B]? = some (.cells #[v] 28 (0, 0)) := (hg.block B (by omega) (fun e => nB e.symm)).trans ((b1.block B hBX).trans h1)
  have hzz : (w1.setCell ⟨B, 0, none⟩ v').heap.size = w1.heap.size := by simp
  have s1 : rng.Steps (fun k => ¬ C k) X (w1.setCell ⟨B, 0, none⟩ v') := by
    refine ((rng.Steps.of_below b1 _).trans (B := X1) ?_).trans (rng.Steps.setCell _ _ _ _ (fun e => e h2))
    exact ⟨hg.os, hg.tape, hg.output, hg.size, fun k hk hn => hg.block k hk (fun e => hn (h4 k e.symm).1)⟩
  refine ⟨fun k => C k ∨ (X.heap.size ≤ k ∧ k < w1.heap.size), ⟨s1, fun k hk => by rw [hzz]; exact hk⟩, v', (heap_setCell_same _ B 0 _ _ _ hB1).trans rfl, .inl h2, ?_, ?_, ?_⟩
  · rw [List.length_append, List.length_singleton, spCells_snoc]
    refine own_step ho (fun k o hk hko => (Below.heap_setCell w1 ⟨B, 0, none⟩ v' k ?_).trans hko)
    rintro rfl
    rcases hw with e | e
    · exact nB (e ▸ hk)
    · rw [e] at hk; cases hk; omega
  · intro k hk
    rcases hw with e | e
    · rw [e] at hk; exact ⟨.inl (h4 k hk).1, (h4 k hk).2⟩
    · rw [e] at hk
      cases hk
      have := (own_in ho e).1
      exact ⟨.inr ⟨by omega, by omega⟩, by omega⟩
  · refine ((h5.trans (b1.mono h5.size)).trans ?_).setCell (by simpa using hb) _
    exact ⟨hg.os, hg.tape, hg.output, hg.size, fun k hk => hg.block k (by have := h5.size; omega) (fun e => by have := hvb k e.symm; omega)⟩

set_option maxRecDepth 100000 in
set_option maxHeartbeats 4000000 in
theorem told_any {w : World} {v : Value} {a : Option Addr} {n cap : Nat} {l : List Sp} (hr : Rv w v a n cap l) (hl : Rn l) (hn : n ≤ 4096) :
    Calls Try.prog 9 #[v] w (Told l w) := by
  obtain ⟨p, rfl⟩ := hr.ptr
  have hlen := row_len hr.row
  have hblk := fun b hb => (hr.row.lt b hb).1
  have hb1 := bal (w := w) (.cells #[.slice none 0 0] 28)
  have hbox := heap_alloc_new w (.cells #[.slice none 0 0] 28)
  have HA := Lib.hid (all1_any (hr.later hb1) hl (by omega) (fun k => k = w.heap.size) (fun k hk => by rw [hk]; simp) (fun b hb e => by have := hblk b hb; omega))
  refine (callsIn_wide (n := 6)).1 ?_
  refine callsIn_of_wp_marks Try.func9 rfl trivial ?_ rfl
  simp only [Try.ntmps9, List.size_toArray, List.length_cons, List.length_nil, Nat.reduceAdd, Nat.reduceSub, Array.replicate_succ, Array.replicate_zero, List.push_toArray, List.append_toArray, List.nil_append, List.cons_append]
  have HB1 := Lib.hid hb1
  have HBOX := Lib.hid hbox
  have HLN := Lib.hid (show l.length ≤ 4096 by omega)
  clear hb1 hbox hr hl hblk hlen hn
  gi_wp2
  refine ⟨trivial, ?_⟩
  refine (callsIn_wide.2 HA.out).mono ?_
  rintro e w2 ⟨lb, rfl, hseq, hb2⟩
  have HSEQ := Lib.hid hseq
  clear hseq
  have hz2 := hb2.size
  simp at hz2
  gi_wp2
  refine wpIn_rangeBox (fun (b : Nat) (y : Sp) (t : Array Value) => (t.setIfInBounds 7 (spV y)).setIfInBounds 4 (.pointer (some ⟨b, 0, none⟩))) (gf := 60) (lb := lb) (L := l) (A := fun k => k = w.heap.size) (w0 := w2) (encs := spE) rfl eg_parts HSEQ.out (Below.refl _ _) (fun _ => rfl)
    (ToldI w w.heap.size) NoX (fun k => k = w.heap.size) ?hc0 (told_bears _ _ _ (by omega)) (nox_bears _) ?h0 (fun b y C X => SpAt X b y ∧ w2.heap.size ≤ b ∧ C b ∧ (∃ v0, X.heap[w.heap.size]? = some (.cells #[v0] 28 (0, 0)) ∧ v0.ownBlock ≠ some b)) ?hB ?assign ?body ?done ?stop
  case hc0 => rintro k rfl; exact ⟨.inl rfl, by omega⟩
  case h0 => exact ⟨.slice none 0 0, (hb2.block w.heap.size (by simp)).trans HBOX.out, rfl, World.ownsRow_nil _ _ _ _, (fun k hk => by cases hk), HB1.out.trans (hb2.mono HB1.out.size)⟩
  case hB =>
    rintro b y _ C X Y ⟨h1, h2, h3, v0, h4, h5⟩ hz hs
    exact ⟨hs.heap (.inr h3) h1, h2, h3, v0, hs.heap (.inl (by omega)) h4, h5⟩
  case assign =>
    rintro l' pre y C X K ⟨v, h1, h2, h3, h4, h5⟩ hp hc hz hK
    have b1 := bal (w := X) (.cells #[.int .i64 y.1, .int .i64 y.2] 24)
    have h1' := (b1.block _ (lt_of_block h1)).trans h1
    have HK := Lib.hid (hK X.heap.size (fun k => C k ∨ k = X.heap.size) _ ⟨Steps.of_below b1 _, fun k hk => by rcases hk with hk | rfl; exact .inl hk; exact .inr ⟨Nat.le_refl _, by simp⟩⟩
      ⟨v, h1', .inl h2, own_later h3 b1, fun k hk => ⟨.inl (h4 k hk).1, (h4 k hk).2⟩, h5.trans (b1.mono h5.size)⟩ ⟨sp_new X y, hz, .inr rfl, v, h1', fun e => by have := (own_in h3 e).1; omega⟩)
    clear hK h1 h1' h2 h3 h4 h5 hp hc b1
    gi_wp2
    exact HK.out
  case body =>
    rintro l' pre x b C X ⟨v, h1, h2, h3, h4, h5⟩ ⟨hyb, hb, hcb, v0, hv0, hvb0⟩ hp hcc hz
    obtain ⟨i0, hi, hz0, hz1, hz2⟩ := info_split info_span
    have hlen : pre.length < 1000000 := by
      have := hp.length_le
      have h6 := HLN.out
      rw [List.length_append, List.length_singleton] at this
      omega
    have cB := (cell_of_row X w.heap.size 0 _ _ (0, 0) h1).trans rfl
    have e0 := hyb.c0; have e1 := hyb.c1
    have hsrc := span_src X x
    have own2 := own_later h3 (bal (w := X) (.cells #[.int .i64 x.1, .int .i64 x.2] 24))
    have d1 := kcell (bal (w := X) (.cells #[.int .i64 x.1, .int .i64 x.2] 24)) cB
    have HN := Lib.hid (fun (w1 : World) (v' : Value) => told_next (w := w) (X := X) (w1 := w1) (pre := pre) (x := x) (v' := v') h1 h2 h4 h5 (Nat.le_refl _) rfl)
    have hvb := fun k hk => (own_in h3 (k := k) hk).2
    have HV := Lib.hid hvb
    have HO := Lib.hid own2
    have HSRC := Lib.hid hsrc
    have H1 := Lib.hid h1
    have H4 := Lib.hid h4
    clear h1 h2 h3 h4 h5 hp hcc hvb own2 hsrc HSEQ HBOX HB1 HA hb2 hv0 hvb0 hyb hcb hb
    simp only [List.setIfInBounds_toArray, List.set_cons_zero, List.set_cons_succ]
    gi_wp2_with (gi_at_builtin; refine wpListIn_append_sz _ rfl (.tmp 8) (.tmp 10) 28 28 rfl w.heap.size 24 i0 (.agg #[.int .i64 0, .int .i64 0]) 2 16 Try.underlying28 hi hz0 hz1 (by decide) hz2 rfl v pre.length (spCells pre) rfl HO.out _ rfl 1 [.int .i64 x.1, .int .i64 x.2] HSRC.out (by unfold maxLen; omega) (by omega) (by simp; omega) ?_)
    intro a' cap' w1 ho hg hw
    obtain ⟨C', hr, hg'⟩ := HN.out w1 _ ho hg (by simpa using hw) HV.out
    have HF := Lib.hid (fun (aa : Act) => show rPost (ToldI w w.heap.size) NoX (pre ++ [x]) C X .normal aa _ from ⟨C', hr, hg'⟩)
    have hB1 : w1.heap[w.heap.size]? = some (.cells #[v] 28 (0, 0)) := (hg.block w.heap.size (by simp; have := lt_of_block H1.out; omega) (fun e => (H4.out _ e.symm).2 rfl)).trans ((bal (w := X) (.cells #[.int .i64 x.1, .int .i64 x.2] 24)).block _ (lt_of_block H1.out) |>.trans H1.out)
    have g0 : w1.cell? ⟨w.heap.size, 0, none⟩ = some v := (cell_of_row w1 w.heap.size 0 _ _ (0, 0) hB1).trans rfl
    have g1 : w1.frozen? ⟨w.heap.size, 0, none⟩ = false := by simp [World.frozen?, hB1]
    clear hB1 ho hg hw HO HSRC HN HV H1 H4 cB d1 e0 e1 hr hg'
    gi_wp2
    exact HF.out _
  case done =>
    rintro D C X hD hCD ⟨v, h1, h2, h3, h4, h5⟩ hK
    have cB := (cell_of_row X w.heap.size 0 _ _ (0, 0) h1).trans rfl
    have nD : ∀ k, v.ownBlock = some k → k ≠ D := by rintro k hk rfl; exact hCD (h4 _ hk).1
    have hf : (X.putObj D (.deferred none)).ownsRow w.heap.size 24 2 v l.length (spCells l) := own_step h3 (fun k o hk ho => (World.putObj_heap_other (nD k hk)).trans ho)
    have hb' : Below w.heap.size w (X.putObj D (.deferred none)) := h5.trans ((rng.Steps.putObj (fun k => k < w.heap.size) X D _ (by omega)).below (n := w.heap.size) h5.size (fun k hk => hk))
    have HF := Lib.hid (show Told l w (.returned v) (X.putObj D (.deferred none)) from ⟨v, rfl, hf, hb'⟩)
    clear h1 h2 h3 h4 h5 nD hf hb' HSEQ HBOX HB1 HA hb2
    gi_wp2
    refine ⟨by simp, .inl ⟨_, _, rfl, run_takeDeferred hK, ?_⟩⟩
    exact ⟨v, by simp [results, Try.results9, go_sem], HF.out⟩
  case stop =>
    rintro D c pre C X _ _ h _
    exact h.elim
end Go.Proofs.Ytgjkbejlfclpoaa.rn
