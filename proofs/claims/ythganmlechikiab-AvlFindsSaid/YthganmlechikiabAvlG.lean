/-
  The law's list of all keys (told).
-/
import Derived.Test.YthganmlechikiabAvlQ
import Derived.Test.YthganmlechikiabApp
namespace Go.Proofs.Ythganmlechikiab.av
open Go.RowKit Go.Shelf aid mem rng
attribute [local go_sem] Oper.semAt_some
set_option linter.unusedVariables false

def prCells (l : Ps) : List Value := l.flatMap (fun x => [.int .i64 x.1, .int .i64 x.2])
theorem prCells_snoc (l : Ps) (x : Int × Int) : prCells (l ++ [x]) = prCells l ++ [.int .i64 x.1, .int .i64 x.2] := by simp [prCells]
theorem prCells_len (l : Ps) : (prCells l).length = l.length * 2 := by
  induction l with
  | nil => rfl
  | cons x l ih => rw [show prCells (x :: l) = [.int .i64 x.1, .int .i64 x.2] ++ prCells l from rfl, List.length_append, ih]; simp; omega
/-- a list of pairs is handed back, in memory of its own -/
def Told (L : Ps) (w : World) (e : Ending) (W' : World) : Prop :=
  ∃ v, e = .returned v ∧ W'.ownsRow w.heap.size 37 2 v L.length (prCells L) ∧ Below w.heap.size w W'
theorem info_pair : (Try.prog.info? 37).map (fun i => (i.zero, i.size, i.bytes)) = some (some (.agg #[.int .i64 0, .int .i64 0]), 2, 16) := by kernel_rfl

/-- between two rounds: n0: the heap's size ahead; B: the list's box -/
def ToldI (w : World) (B : Nat) (pre : Ps) (C : Nat → Prop) (W : World) : Prop :=
  ∃ v, W.heap[B]? = some (.cells #[v] 28 (0, 0)) ∧ C B ∧ W.ownsRow w.heap.size 37 2 v pre.length (prCells pre) ∧ (∀ k, v.ownBlock = some k → C k ∧ k ≠ B) ∧ Below w.heap.size w W
theorem own_steps {W W' : World} {base : Nat} {e : TypeId} {size : Nat} {v : Value} {n : Nat} {xs : List Value} (ho : W.ownsRow base e size v n xs) (h : ∀ k o, v.ownBlock = some k → W.heap[k]? = some o → W'.heap[k]? = some o) : W'.ownsRow base e size v n xs := by
  refine ⟨ho.1, ?_⟩
  rcases ho.2 with hn | ⟨g, cap, cur, rfl, hb, hgg, rest⟩
  · exact .inl hn
  · exact .inr ⟨g, cap, cur, rfl, hb, h g _ rfl hgg, rest⟩
theorem own_lt {W : World} {base : Nat} {e : TypeId} {size : Nat} {v : Value} {n : Nat} {xs : List Value} (ho : W.ownsRow base e size v n xs) {k : Nat} (hk : v.ownBlock = some k) : k < W.heap.size ∧ base ≤ k := by
  rcases ho.2 with ⟨rfl, _⟩ | ⟨g, cap, cur, rfl, hb, hgg, rest⟩
  · cases hk
  · cases hk; exact ⟨lt_of_block hgg, hb⟩
theorem told_bears (w : World) (B n : Nat) (hn : w.heap.size ≤ n) : Bears n (ToldI w B) := by
  rintro s C X Y ⟨v, h1, h2, h3, h4, h5⟩ hz hs
  exact ⟨v, hs.heap (.inr h2) h1, h2, own_steps h3 (fun k o hk ho => hs.heap (.inr (h4 k hk).1) ho), h4, h5.trans (hs.below (by omega) (fun k hk => .inl (by omega)))⟩
/-- a round's end -/
theorem told_next {w X X1 w1 : World} {B : Nat} {pre : Ps} {x : Int × Int} {C : Nat → Prop} {v v' : Value} (h1 : X.heap[B]? = some (.cells #[v] 28 (0, 0))) (h2 : C B) (h4 : ∀ k, v.ownBlock = some k → C k ∧ k ≠ B) (h5 : Below w.heap.size w X)
    (hb : w.heap.size ≤ B) (hX : X1 = X.alloc (.cells #[.int .i64 x.1, .int .i64 x.2] 37))
    (ho : w1.ownsRow w.heap.size 37 2 v' (pre.length + 1) (prCells pre ++ [.int .i64 x.1, .int .i64 x.2])) (hg : X1.grownBy w1 v.ownBlock) (hw : v'.ownBlock = v.ownBlock ∨ v'.ownBlock = some X1.heap.size)
    (hvb : ∀ k, v.ownBlock = some k → w.heap.size ≤ k) :
    ∃ C', Round C X C' (w1.setCell ⟨B, 0, none⟩ v') ∧ ToldI w B (pre ++ [x]) C' (w1.setCell ⟨B, 0, none⟩ v') := by
  have hz : X1.heap.size = X.heap.size + 1 := by rw [hX]; simp
  have b1 : Below X.heap.size X X1 := by rw [hX]; exact bal' _
  have hBX := lt_of_block h1
  have nB : v.ownBlock ≠ some B := fun e => (h4 B e).2 rfl
  have hB1 : w1.heap[B]? = some (.cells #[v] 28 (0, 0)) := (hg.block B (by omega) (fun e => nB e.symm)).trans ((b1.block B hBX).trans h1)
  have hzz : (w1.setCell ⟨B, 0, none⟩ v').heap.size = w1.heap.size := by simp
  have s1 : rng.Steps (fun k => ¬ C k) X (w1.setCell ⟨B, 0, none⟩ v') := by
    refine ((rng.Steps.of_below b1 _).trans (B := X1) ?_).trans (rng.Steps.setCell _ _ _ _ (fun e => e h2))
    exact ⟨hg.os, hg.tape, hg.output, hg.size, fun k hk hn => hg.block k hk (fun e => hn (h4 k e.symm).1)⟩
  refine ⟨fun k => C k ∨ (X.heap.size ≤ k ∧ k < w1.heap.size), ⟨s1, fun k hk => by rw [hzz]; exact hk⟩, v', (heap_setCell_same _ B 0 _ _ _ hB1).trans rfl, .inl h2, ?_, ?_, ?_⟩
  · rw [List.length_append, List.length_singleton, prCells_snoc]
    refine own_steps ho (fun k o hk hko => (Below.heap_setCell w1 ⟨B, 0, none⟩ v' k ?_).trans hko)
    rintro rfl
    rcases hw with e | e
    · exact nB (e ▸ hk)
    · rw [e] at hk; cases hk; omega
  · intro k hk
    rcases hw with e | e
    · rw [e] at hk; exact ⟨.inl (h4 k hk).1, (h4 k hk).2⟩
    · rw [e] at hk
      cases hk
      have := (own_lt ho e).1
      exact ⟨.inr ⟨by omega, by omega⟩, by omega⟩
  · refine ((h5.trans (b1.mono h5.size)).trans ?_).setCell (by simpa using hb) _
    exact ⟨hg.os, hg.tape, hg.output, hg.size, fun k hk => hg.block k (by have := h5.size; omega) (fun e => by have := hvb k e.symm; omega)⟩

set_option maxRecDepth 100000 in
set_option maxHeartbeats 4000000 in
theorem told_any {w : World} {p : Option Addr} {t : T} (h : TrO w p t) (hu : T.Up t.toL) (hbd : Bound t) (hs : t.size ≤ 1000000) :
    Calls Try.prog 14 #[.pointer p, .bool false] w (Told t.toL w) := by
  have hb1 := bal' (w := w) (.cells #[.slice none 0 0] 28)
  have hbox := heap_alloc_new w (.cells #[.slice none 0 0] 28)
  have hfar : Far (w.alloc (.cells #[.slice none 0 0] 28)) (fun k => k = w.heap.size) := by
    rintro k rfl
    refine ⟨by simp, fun cs e => ?_⟩
    rw [hbox] at e
    simp at e
  have h1 : TrO (w.alloc (.cells #[.slice none 0 0] 28)) p t := by
    rcases h with h | ⟨b, rfl, h⟩
    · exact .inl h
    · exact (h.later hb1).o
  have hall := all_any h1 hu hbd _ hfar
  refine (callsIn_wide (n := 6)).1 ?_
  refine callsIn_of_wp_marks Try.func14 rfl trivial ?_ rfl
  simp only [Try.ntmps14, List.size_toArray, List.length_cons, List.length_nil, Nat.reduceAdd, Nat.reduceSub, Array.replicate_succ, Array.replicate_zero, List.push_toArray, List.append_toArray, List.nil_append, List.cons_append]
  have HA := Lib.hid hall
  have HB1 := Lib.hid hb1
  have HBOX := Lib.hid hbox
  clear hall h1 hfar hb1 hbox h hu hbd
  gi_wp2
  refine ⟨trivial, ?_⟩
  refine (callsIn_wide.2 HA.out).mono ?_
  rintro e w2 ⟨lb, rfl, hseq, hb2⟩
  have HSEQ := Lib.hid hseq
  clear hseq
  gi_wp2
  refine wpIn_range' (gf := 49) (lb := lb) (L := t.toL) (A := fun k => k = w.heap.size) (w0 := w2) (encs := kvE) rfl eg49 HSEQ.out (Below.refl _ _) (fun _ => rfl)
    (ToldI w w.heap.size) (fun _ _ _ _ => False) (fun k => k = w.heap.size) ?hc0 ?hI ?hIx ?h0
    (fun x => { tmps := #[.pointer p, .bool false, undef, undef, .slice none 0 0, .pointer (some ⟨w.heap.size, 0, none⟩), .func (.func 49) #[] lb, .int .i64 x.1, .int .i64 x.2, .pointer p, .func (.func 49) #[] lb, .bool false, undef, undef, .func (.func 49) #[] lb, .int .i64 x.1, .int .i64 x.2, undef, undef, undef, undef, undef, undef, undef], defers := [] }) ?assign ?body ?done ?stop
  case hc0 => rintro k rfl; have h1 := HB1.out.size; have h2 := hb2.size; simp at h2; exact ⟨.inl rfl, by omega⟩
  case hI => exact told_bears _ _ _ (by have h2 := hb2.size; simp at h2; omega)
  case hIx => exact fun _ _ _ _ _ h _ _ => h.elim
  case h0 => exact ⟨.slice none 0 0, (hb2.block w.heap.size (by simp)).trans HBOX.out, rfl, World.ownsRow_nil _ _ _ _, (fun k hk => by cases hk), HB1.out.trans (hb2.mono HB1.out.size)⟩
  case assign =>
    intro l x X K hK
    gi_wp2
    exact hK
  case body =>
    rintro l pre x C X ⟨v, h1, h2, h3, h4, h5⟩ hp hcb hz
    obtain ⟨i0, hi, hz0, hz1, hz2⟩ := info_parts info_pair
    have hlen : pre.length < 1000000 := by
      have := hp.length_le
      rw [List.length_append, List.length_singleton, T.size_toL] at this
      omega
    have cB := (cell_of_row X w.heap.size 0 _ _ (0, 0) h1).trans rfl
    have d1 := ck (bal' (.cells #[.int .i64 x.1, .int .i64 x.2] 37)) cB
    have hsrc : Src Try.prog 2 28 (.slice (some ⟨X.heap.size, 0, none⟩) 1 1) 1 [.int .i64 x.1, .int .i64 x.2] (X.alloc (.cells #[.int .i64 x.1, .int .i64 x.2] 37)) := by
      refine Src.ofSlice _ Try.underlying28 ⟨X.heap.size, 0, none⟩ 1 1 _ rfl ?_ (by simp [Value.oneCell'])
      intro j u hu
      have hj : j < 2 := by simpa using (List.getElem?_eq_some_iff.1 hu).1
      have := cell_of_row (X.alloc (.cells #[.int .i64 x.1, .int .i64 x.2] 37)) X.heap.size j _ _ (0, 0) (heap_alloc_new X _)
      have hadd : (⟨X.heap.size, 0, none⟩ : Addr).add j = ⟨X.heap.size, 0 + j, none⟩ := by unfold Addr.add; split <;> simp_all
      rw [hadd, Nat.zero_add, this, ← hu]
      simp
    have own2 := own_steps (W' := X.alloc (.cells #[.int .i64 x.1, .int .i64 x.2] 37)) h3 (fun k o hk hko => ((bal' (.cells #[.int .i64 x.1, .int .i64 x.2] 37)).block k (lt_of_block hko)).trans hko)
    have HN := Lib.hid (fun (w1 : World) (v' : Value) => told_next (w := w) (X := X) (w1 := w1) (pre := pre) (x := x) (v' := v') h1 h2 h4 h5 (Nat.le_refl _) rfl)
    have hvb := fun k hk => (own_lt h3 (k := k) hk).2
    have HV := Lib.hid hvb
    have HO := Lib.hid own2
    have HSRC := Lib.hid hsrc
    have hX : w.heap.size ≤ X.heap.size := h5.size
    have H1 := Lib.hid h1
    have H4 := Lib.hid h4
    clear h1 h2 h3 h4 h5 hp hcb hz hvb own2 hsrc HSEQ HBOX HB1 HA hb2
    gi_wp2_with (gi_at_builtin; refine wpListIn_append_sz _ rfl (.tmp 17) (.tmp 21) 28 28 rfl w.heap.size 37 i0 (.agg #[.int .i64 0, .int .i64 0]) 2 16 Try.underlying28 hi hz0 hz1 (by decide) hz2 rfl v pre.length (prCells pre) rfl HO.out _ rfl 1 [.int .i64 x.1, .int .i64 x.2] HSRC.out (by unfold maxLen; omega) (by omega) (by simp; omega) ?_)
    intro a' cap' w1 ho hg hw
    have HF := Lib.hid (HN.out w1 _ ho hg (by simpa using hw) HV.out)
    have hB1 : w1.heap[w.heap.size]? = some (.cells #[v] 28 (0, 0)) := (hg.block w.heap.size (by simp; have := lt_of_block H1.out; omega) (fun e => (H4.out _ e.symm).2 rfl)).trans ((bal' (w := X) (.cells #[.int .i64 x.1, .int .i64 x.2] 37)).block _ (lt_of_block H1.out) |>.trans H1.out)
    have g0 : w1.cell? ⟨w.heap.size, 0, none⟩ = some v := (cell_of_row w1 w.heap.size 0 _ _ (0, 0) hB1).trans rfl
    have g1 : w1.frozen? ⟨w.heap.size, 0, none⟩ = false := by simp [World.frozen?, hB1]
    clear hB1 ho hg hw HO HSRC HN HV H1 H4 cB d1
    gi_wp2
    exact HF.out
  case done =>
    rintro D C X hD hCD ⟨v, h1, h2, h3, h4, h5⟩ hK
    have cB := (cell_of_row X w.heap.size 0 _ _ (0, 0) h1).trans rfl
    have nD : ∀ k, v.ownBlock = some k → k ≠ D := by rintro k hk rfl; exact hCD (h4 _ hk).1
    have hf : (X.putObj D (.deferred none)).ownsRow w.heap.size 37 2 v t.toL.length (prCells t.toL) := own_steps h3 (fun k o hk ho => (World.putObj_heap_other (nD k hk)).trans ho)
    have hDw : w.heap.size < D := by have := hb2.size; simp at this; omega
    have hb' : Below w.heap.size w (X.putObj D (.deferred none)) := h5.trans ((rng.Steps.putObj (fun k => k < w.heap.size) X D _ (by omega)).below (n := w.heap.size) h5.size (fun k hk => hk))
    have HF := Lib.hid (show Told t.toL w (.returned v) (X.putObj D (.deferred none)) from ⟨v, rfl, hf, hb'⟩)
    clear h1 h2 h3 h4 h5 nD hf hb' HSEQ HBOX HB1 HA hb2
    gi_wp2
    refine ⟨by simp, .inl ⟨_, _, rfl, run_takeDeferred hK, ?_⟩⟩
    exact ⟨v, by simp [results, Try.results14, go_sem], HF.out⟩
  case stop =>
    rintro D c pre C X _ _ h _
    exact h.elim
end Go.Proofs.Ythganmlechikiab.av
