/-
  The law's list of all keys, falling.
-/
import Derived.Test.YthganmlechikiabAvlG
import Derived.Test.YthganmlechikiabApp
namespace Go.Proofs.Ythganmlechikiab.av
open Go.RowKit Go.Shelf aid mem rng
attribute [local go_sem] Oper.semAt_some
set_option linter.unusedVariables false

theorem TrO.later' {w w' : World} {p : Option Addr} {t : T} (h : TrO w p t) (hb : Below w.heap.size w w') : TrO w' p t := by
  rcases h with h | ⟨b, rfl, h⟩
  · exact .inl h
  · exact (h.later hb).o
set_option maxRecDepth 100000 in
set_option maxHeartbeats 4000000 in
theorem back_told {w : World} {p : Option Addr} {t : T} (h : TrO w p t) (hu : T.Up t.toL) (hbd : Bound t) (hs : t.size ≤ 1000000) :
    Calls Try.prog 14 #[.pointer p, .bool true] w (Told t.toL.reverse w) := by
  have hb1 := bal' (w := w) (.cells #[.slice none 0 0] 28)
  have hbox := heap_alloc_new w (.cells #[.slice none 0 0] 28)
  have hfar : Far (w.alloc (.cells #[.slice none 0 0] 28)) (fun k => k = w.heap.size) := by
    rintro k rfl
    refine ⟨by simp, fun cs e => ?_⟩
    rw [hbox] at e
    simp at e
  have h1 : TrO (w.alloc (.cells #[.slice none 0 0] 28)) p t := by
    rcases h with h | ⟨b, rfl, h⟩
    · exact .inl h
    · exact (h.later hb1).o
  have hall := all_any h1 hu hbd _ hfar
  refine (callsIn_wide (n := 6)).1 ?_
  refine callsIn_of_wp_marks Try.func14 rfl trivial ?_ rfl
  simp only [Try.ntmps14, List.size_toArray, List.length_cons, List.length_nil, Nat.reduceAdd, Nat.reduceSub, Array.replicate_succ, Array.replicate_zero, List.push_toArray, List.append_toArray, List.nil_append, List.cons_append]
  have HA := Lib.hid hall
  have HBK := Lib.hid (fun (w2 : World) (hb : Below (w.alloc (.cells #[.slice none 0 0] 28)).heap.size (w.alloc (.cells #[.slice none 0 0] 28)) w2) => back_any (h1.later' hb) (fun k => k = w.heap.size) (hfar.later hb))
  have HB1 := Lib.hid hb1
  have HBOX := Lib.hid hbox
  clear hall h1 hfar hb1 hbox h hu hbd
  gi_wp2
  refine ⟨trivial, ?_⟩
  refine (callsIn_wide.2 HA.out).mono ?_
  rintro e w3 ⟨lb0, rfl, hseq0, hb3⟩
  have HBK2 := Lib.hid (HBK.out w3 hb3)
  clear hseq0 HBK
  gi_wp2
  refine ⟨trivial, ?_⟩
  refine (callsIn_wide.2 HBK2.out).mono ?_
  rintro e w2 ⟨lb, rfl, hseq, hb4⟩
  have HSEQ := Lib.hid hseq
  have hb2 := hb3.trans (hb4.mono hb3.size)
  clear hseq hb3 hb4 HBK2
  gi_wp2
  refine wpIn_range' (gf := 49) (lb := lb) (L := t.toL.reverse) (A := fun k => k = w.heap.size) (w0 := w2) (encs := kvE) rfl eg49 HSEQ.out (Below.refl _ _) (fun _ => rfl)
    (ToldI w w.heap.size) (fun _ _ _ _ => False) (fun k => k = w.heap.size) ?hc0 ?hI ?hIx ?h0
    (fun x => { tmps := #[.pointer p, .bool true, undef, undef, .slice none 0 0, .pointer (some ⟨w.heap.size, 0, none⟩), .func (.func 49) #[] lb, .int .i64 x.1, .int .i64 x.2, .pointer p, .func (.func 49) #[] lb0, .bool true, .pointer p, .func (.func 49) #[] lb, .func (.func 49) #[] lb, .int .i64 x.1, .int .i64 x.2, undef, undef, undef, undef, undef, undef, undef], defers := [] }) ?assign ?body ?done ?stop
  case hc0 => rintro k rfl; have h1 := HB1.out.size; have h2 := hb2.size; simp at h2; exact ⟨.inl rfl, by omega⟩
  case hI => exact told_bears _ _ _ (by have h2 := hb2.size; simp at h2; omega)
  case hIx => exact fun _ _ _ _ _ h _ _ => h.elim
  case h0 => exact ⟨.slice none 0 0, (hb2.block w.heap.size (by simp)).trans HBOX.out, rfl, World.ownsRow_nil _ _ _ _, (fun k hk => by cases hk), HB1.out.trans (hb2.mono HB1.out.size)⟩
  case assign =>
    intro l x X K hK
    gi_wp2
    exact hK
  case body =>
    rintro l pre x C X ⟨v, h1, h2, h3, h4, h5⟩ hp hcb hz
    obtain ⟨i0, hi, hz0, hz1, hz2⟩ := info_parts info_pair
    have hlen : pre.length < 1000000 := by
      have := hp.length_le
      rw [List.length_append, List.length_singleton, List.length_reverse, T.size_toL] at this
      omega
    have cB := (cell_of_row X w.heap.size 0 _ _ (0, 0) h1).trans rfl
    have d1 := ck (bal' (.cells #[.int .i64 x.1, .int .i64 x.2] 37)) cB
    have hsrc : Src Try.prog 2 28 (.slice (some ⟨X.heap.size, 0, none⟩) 1 1) 1 [.int .i64 x.1, .int .i64 x.2] (X.alloc (.cells #[.int .i64 x.1, .int .i64 x.2] 37)) := by
      refine Src.ofSlice _ Try.underlying28 ⟨X.heap.size, 0, none⟩ 1 1 _ rfl ?_ (by simp [Value.oneCell'])
      intro j u hu
      have hj : j < 2 := by simpa using (List.getElem?_eq_some_iff.1 hu).1
      have := cell_of_row (X.alloc (.cells #[.int .i64 x.1, .int .i64 x.2] 37)) X.heap.size j _ _ (0, 0) (heap_alloc_new X _)
      have hadd : (⟨X.heap.size, 0, none⟩ : Addr).add j = ⟨X.heap.size, 0 + j, none⟩ := by unfold Addr.add; split <;> simp_all
      rw [hadd, Nat.zero_add, this, ← hu]
      simp
    have own2 := own_steps (W' := X.alloc (.cells #[.int .i64 x.1, .int .i64 x.2] 37)) h3 (fun k o hk hko => ((bal' (.cells #[.int .i64 x.1, .int .i64 x.2] 37)).block k (lt_of_block hko)).trans hko)
    have HN := Lib.hid (fun (w1 : World) (v' : Value) => told_next (w := w) (X := X) (w1 := w1) (pre := pre) (x := x) (v' := v') h1 h2 h4 h5 (Nat.le_refl _) rfl)
    have hvb := fun k hk => (own_lt h3 (k := k) hk).2
    have HV := Lib.hid hvb
    have HO := Lib.hid own2
    have HSRC := Lib.hid hsrc
    have hX : w.heap.size ≤ X.heap.size := h5.size
    have H1 := Lib.hid h1
    have H4 := Lib.hid h4
    clear h1 h2 h3 h4 h5 hp hcb hz hvb own2 hsrc HSEQ HBOX HB1 HA hb2
    gi_wp2_with (gi_at_builtin; refine wpListIn_append_sz _ rfl (.tmp 17) (.tmp 21) 28 28 rfl w.heap.size 37 i0 (.agg #[.int .i64 0, .int .i64 0]) 2 16 Try.underlying28 hi hz0 hz1 (by decide) hz2 rfl v pre.length (prCells pre) rfl HO.out _ rfl 1 [.int .i64 x.1, .int .i64 x.2] HSRC.out (by unfold maxLen; omega) (by omega) (by simp; omega) ?_)
    intro a' cap' w1 ho hg hw
    have HF := Lib.hid (HN.out w1 _ ho hg (by simpa using hw) HV.out)
    have hB1 : w1.heap[w.heap.size]? = some (.cells #[v] 28 (0, 0)) := (hg.block w.heap.size (by simp; have := lt_of_block H1.out; omega) (fun e => (H4.out _ e.symm).2 rfl)).trans ((bal' (w := X) (.cells #[.int .i64 x.1, .int .i64 x.2] 37)).block _ (lt_of_block H1.out) |>.trans H1.out)
    have g0 : w1.cell? ⟨w.heap.size, 0, none⟩ = some v := (cell_of_row w1 w.heap.size 0 _ _ (0, 0) hB1).trans rfl
    have g1 : w1.frozen? ⟨w.heap.size, 0, none⟩ = false := by simp [World.frozen?, hB1]
    clear hB1 ho hg hw HO HSRC HN HV H1 H4 cB d1
    gi_wp2
    exact HF.out
  case done =>
    rintro D C X hD hCD ⟨v, h1, h2, h3, h4, h5⟩ hK
    have cB := (cell_of_row X w.heap.size 0 _ _ (0, 0) h1).trans rfl
    have nD : ∀ k, v.ownBlock = some k → k ≠ D := by rintro k hk rfl; exact hCD (h4 _ hk).1
    have hf : (X.putObj D (.deferred none)).ownsRow w.heap.size 37 2 v t.toL.reverse.length (prCells t.toL.reverse) := own_steps h3 (fun k o hk ho => (World.putObj_heap_other (nD k hk)).trans ho)
    have hDw : w.heap.size < D := by have := hb2.size; simp at this; omega
    have hb' : Below w.heap.size w (X.putObj D (.deferred none)) := h5.trans ((rng.Steps.putObj (fun k => k < w.heap.size) X D _ (by omega)).below (n := w.heap.size) h5.size (fun k hk => hk))
    have HF := Lib.hid (show Told t.toL.reverse w (.returned v) (X.putObj D (.deferred none)) from ⟨v, rfl, hf, hb'⟩)
    clear h1 h2 h3 h4 h5 nD hf hb' HSEQ HBOX HB1 HA hb2
    gi_wp2
    refine ⟨by simp, .inl ⟨_, _, rfl, run_takeDeferred hK, ?_⟩⟩
    exact ⟨v, by simp [results, Try.results14, go_sem], HF.out⟩
  case stop =>
    rintro D c pre C X _ _ h _
    exact h.elim
end Go.Proofs.Ythganmlechikiab.av
