/-
  Several texts in one: BokJ BokP RbkA BokQ BrdH BrdI BrdJ BrdC BrdK BokK BokZ
-/
import Derived.Laws.StructEq
import Derived.Test.YtohpaoleomcimaaGreatM8
/-!   Package book: all deemed lost, nothing deemed lost. (Written by gen_bokj.py.)
-/
namespace Go.Proofs.YtohpaoleomcimaaGreat.bk
open Go.RowKit Go.Shelf aid mem rng
attribute [local go_sem] Oper.semAt_some
set_option linter.unusedVariables false
set_option linter.unusedSimpArgs false

set_option maxRecDepth 100000 in
set_option maxHeartbeats 8000000 in
theorem changed_spare {w : World} {B T : Nat} {s : Hd} {L : List Nd} (h : Ln w B s T L) (ho : Ord L) (hn : L.length ≤ 1000000) :
    Calls Tryz.prog 75 #[.pointer (some ⟨B, 0, none⟩), .func (.methodOf 92 "undertow/book.spare") #[] #[]] w fun e w' => e = .returned (.int .i64 (cnt (fun r => r.lost) L : Int)) ∧ Ln w' B s T (mapN Rc.spare L) ∧ Kept (L.map (·.1)) w w' := by
  have hB := lt_of_block h.bk
  have hL : ∀ x ∈ L, x.1 < w.heap.size := fun x hx => h.lt hx
  obtain ⟨W2, hW2⟩ : ∃ W2, W2 = (w.alloc (.cells #[.func (.methodOf 92 "undertow/book.spare") #[] #[]] 126)).alloc (.cells #[.int .i64 0] 3) := ⟨_, rfl⟩
  have b2 : Below w.heap.size w W2 := by rw [hW2]; exact ((Below.refl _ _).alloc (Nat.le_refl _) _).alloc (by simp) _
  have z2 : W2.heap.size = w.heap.size + 2 := by rw [hW2]; simp
  have b3 := al W2 (.cells #[.pointer (some ⟨B, 0, none⟩)] 28)
  have y3 := cofr (heap_alloc_new W2 (.cells #[.pointer (some ⟨B, 0, none⟩)] 28)) 0 _ rfl
  have b23 := b2.trans (b3.mono b2.size)
  have hI0 : CI w B T s L Rc.spare (fun r => r.lost) (.func (.methodOf 92 "undertow/book.spare") #[] #[]) [] (fun k => k = w.heap.size + 1 ∨ k ∈ L.map (·.1)) (W2.alloc (.cells #[.pointer (some ⟨B, 0, none⟩)] 28)) := by
    refine ⟨⟨L, rfl, h.later b23⟩, ?_, ?_, .inl rfl, fun x hx => .inr (List.mem_map.2 ⟨x, hx, rfl⟩), Kept.of_below b23 (Nat.le_refl _) _⟩
    · refine (b3.block _ (by omega)).trans ?_
      rw [hW2]
      have := heap_alloc_new (w.alloc (.cells #[.func (.methodOf 92 "undertow/book.spare") #[] #[]] 126)) (.cells #[.int .i64 0] 3)
      rw [World.size_alloc] at this
      exact this
    · refine (b3.block _ (by omega)).trans ?_
      rw [hW2]
      exact ((al _ _).block w.heap.size (by simp only [World.size_alloc]; omega)).trans (heap_alloc_new w _)
  have HSEQ := Lib.hid (inorder1_seqR (A := fun _ => True) (bx := W2.heap.size) (.inr ⟨B, rfl, (h.later b23).lr⟩) ho y3)
  have HI := Lib.hid hI0
  have HLL := Lib.hid hL
  clear h hI0 y3 hL
  refine (callsIn_wide (n := 6)).1 ?_
  refine callsIn_of_wp_marks Tryz.func75 rfl trivial ?_ rfl
  simp only [Tryz.ntmps75, List.size_toArray, List.length_cons, List.length_nil, Nat.reduceAdd, Nat.reduceSub, Array.replicate_succ, Array.replicate_zero, List.push_toArray, List.append_toArray, List.nil_append, List.cons_append]
  gi_wp2
  rw [← hW2]
  clear hW2
  refine ⟨trivial, ?_⟩
  refine (callsIn_wide.2 (inorder_call _ _)).mono ?_
  rintro e w3 ⟨rfl, rfl⟩
  have hz3 : (W2.alloc (.cells #[.pointer (some ⟨B, 0, none⟩)] 28)).heap.size = w.heap.size + 3 := by simp [z2]
  generalize W2.alloc (.cells #[.pointer (some ⟨B, 0, none⟩)] 28) = W3 at *
  clear b2 b3 b23 z2
  gi_wp2
  refine wpIn_rangeRF (fun (y : Nd) (t : Array Value) => (t.setIfInBounds 9 (.pointer (some ⟨y.1, 0, none⟩))).setIfInBounds 6 (.pointer (some ⟨y.1, 0, none⟩))) (gf := 99) (lb := #[.pointer (some ⟨W2.heap.size, 0, none⟩)]) (L := L) (A := fun _ => True) (w0 := W3) (encs := nE) rfl eg_in HSEQ.out (Below.refl _ _) (fun _ => rfl)
    (CI w B T s L Rc.spare (fun r => r.lost) (.func (.methodOf 92 "undertow/book.spare") #[] #[])) (fun _ _ _ _ => False) (fun k => k = w.heap.size + 1 ∨ k ∈ L.map (·.1)) ?hc0 (ci_bears (by omega) hB HLL.out) (fun _ _ _ _ _ h _ _ => h.elim) HI.out ?hRD ?assign ?body ?done ?stop
  case hc0 =>
    intro k hk
    refine ⟨.inl trivial, ?_⟩
    rcases hk with rfl | hk
    · omega
    · obtain ⟨x, hx, rfl⟩ := List.mem_map.1 hk
      have := HLL.out x hx
      omega
  case hRD =>
    rintro pre x post C X e h
    obtain ⟨post', e', hln⟩ := h.ln
    have : post' = x :: post := List.append_cancel_left (e'.symm.trans e.symm)
    rw [this] at hln
    have hnd := (seg_append.1 hln.sg).2.1
    obtain ⟨_, _, _, k3, _, _, _, _, k8⟩ := hnd.cs
    exact ⟨k3, k8⟩
  case assign =>
    intro l' x X K hK
    gi_wp2
    exact hK
  case body =>
    rintro l' pre x C X h hp hcc hzX
    have c2 := cofr h.fb 0 _ rfl
    have hmeth := fun W => meth_node (b := x.1) (w := W) row_spare 306
    obtain ⟨post, e, hln⟩ := h.ln
    obtain ⟨rest, e2⟩ := hp
    have e3 : post = x :: rest := by
      refine @List.append_cancel_left _ pre _ _ (e.symm.trans ?_)
      rw [← e2]; simp
    rw [e3] at hln
    have hnd := (seg_append.1 hln.sg).2.1
    have HN := Lib.hid hnd
    have hpl : pre.length < L.length := by rw [← e2]; simp
    have hcl := cnt_le (fun r => r.lost) pre
    have hxL : x ∈ L := by rw [← e2]; simp
    have hx1 := HLL.out x hxL
    have ccb := cofr h.cb 0 _ rfl
    have HSTEP := Lib.hid (fun (Y : World) (hk : Kept [x.1] X Y) (hn : NdAt Y x.1 (Rc.spare x.2) (la none (mapN Rc.spare pre)) (hd none rest)) => show Ln Y B s T (mapN Rc.spare (pre ++ [x]) ++ rest) ∧ Kept (L.map (·.1)) w Y ∧ Y.heap[w.heap.size + 1]? = some (.cells #[.int .i64 (cnt (fun r => r.lost) pre : Int)] 3 (0, 0)) ∧ Y.heap[w.heap.size]? = some (.cells #[.func (.methodOf 92 "undertow/book.spare") #[] #[]] 126 (0, 0)) from
      ⟨by have := hln.one hk hn; simpa [mapN] using this, h.kept.trans hk (fun k hk' => by simp at hk'; subst hk'; exact .inl (List.mem_map.2 ⟨x, hxL, rfl⟩)), hk.heap (by simp; omega) h.cb, hk.heap (by simp; omega) h.fb⟩)
    have HC1 := Lib.hid h.c1
    have HCX := Lib.hid (h.cL x hxL)
    have HCL := Lib.hid h.cL
    have HEX := Lib.hid (show L = (pre ++ [x]) ++ rest from by rw [← e2])
    have hxn : (x.1, x.2) = x := rfl
    cases hl : x.2.lost
    · have hcn : cnt (fun r => r.lost) (pre ++ [x]) = cnt (fun r => r.lost) pre := by rw [cnt_snoc]; simp [hl]
      have HCALL := Lib.hid (fun (W : World) (hW : NdAt W x.1 x.2 (la none (mapN Rc.spare pre)) (hd none rest)) => show Calls Tryz.prog 76 #[.pointer (some ⟨x.1, 0, none⟩)] W fun e w' => e = .returned (.bool false) ∧ NdAt w' x.1 x.2.spare (la none (mapN Rc.spare pre)) (hd none rest) ∧ Kept [x.1] W w' from by have := spare_any hW; rw [hl] at this; exact this)
      have HCN := Lib.hid hcn
      clear h e e2 e3 hln hnd hcc hxL hcl hcn hl
      generalize cnt (fun r => r.lost) pre = k at *
      simp only [List.setIfInBounds_toArray, List.set_cons_zero, List.set_cons_succ]
      gi_wp2
      refine ⟨trivial, ?_⟩
      refine (callsIn_wide.2 (HCALL.out _ HN.out)).mono ?_
      rintro e Y ⟨rfl, hn, hk⟩
      obtain ⟨q1, q2, q3, q4⟩ := HSTEP.out Y hk hn
      have HE : Hid (∀ a' : Act, rPost (CI w B T s L Rc.spare (fun r => r.lost) (.func (.methodOf 92 "undertow/book.spare") #[] #[])) (fun _ _ _ _ => False) (pre ++ [x]) C X .normal a' Y) := Lib.hid (fun a' =>
        ⟨C, Round.of_kept hk (fun j hj => by simp at hj; subst hj; exact HCX.out), ⟨rest, HEX.out, q1⟩, by rw [HCN.out]; exact q3, q4, HC1.out, HCL.out, q2⟩)
      clear q1 q2 q3 q4 hk hn
      gi_wp2
      exact HE.out _
    · have hcn : cnt (fun r => r.lost) (pre ++ [x]) = cnt (fun r => r.lost) pre + 1 := by rw [cnt_snoc]; simp [hl]
      have hw1 : IntKind.i64.wrap ((cnt (fun r => r.lost) pre : Int) + 1) = (cnt (fun r => r.lost) pre : Int) + 1 := IntWalk.i64_in _ (by omega)
      have HCALL := Lib.hid (fun (W : World) (hW : NdAt W x.1 x.2 (la none (mapN Rc.spare pre)) (hd none rest)) => show Calls Tryz.prog 76 #[.pointer (some ⟨x.1, 0, none⟩)] W fun e w' => e = .returned (.bool true) ∧ NdAt w' x.1 x.2.spare (la none (mapN Rc.spare pre)) (hd none rest) ∧ Kept [x.1] W w' from by have := spare_any hW; rw [hl] at this; exact this)
      have HCN := Lib.hid hcn
      clear h e e2 e3 hln hnd hcc hxL hcl hcn hl
      generalize cnt (fun r => r.lost) pre = k at *
      simp only [List.setIfInBounds_toArray, List.set_cons_zero, List.set_cons_succ]
      gi_wp2
      refine ⟨trivial, ?_⟩
      refine (callsIn_wide.2 (HCALL.out _ HN.out)).mono ?_
      rintro e Y ⟨rfl, hn, hk⟩
      obtain ⟨q1, q2, q3, q4⟩ := HSTEP.out Y hk hn
      have g1 := cofr q3 0 _ rfl
      have g2 := fofr q3 0
      have hk2 : Kept [w.heap.size + 1] Y (Y.setCell ⟨w.heap.size + 1, 0, none⟩ (.int .i64 ((k : Int) + 1))) := (Kept.refl _ Y).setCell (.inl (by simp)) _
      have HE : Hid (∀ a' : Act, rPost (CI w B T s L Rc.spare (fun r => r.lost) (.func (.methodOf 92 "undertow/book.spare") #[] #[])) (fun _ _ _ _ => False) (pre ++ [x]) C X .normal a' (Y.setCell ⟨w.heap.size + 1, 0, none⟩ (.int .i64 ((k : Int) + 1)))) := Lib.hid (fun a' =>
        ⟨C, (Round.of_kept hk (fun j hj => by simp at hj; subst hj; exact HCX.out)).trans (Round.of_kept hk2 (fun j hj => by simp at hj; subst hj; exact HC1.out)),
          ⟨rest, HEX.out, q1.kept hk2 (by simp; omega) (fun y hy => by
            simp only [List.mem_singleton]
            rcases List.mem_append.1 hy with hy | hy
            · obtain ⟨z, hz, rfl⟩ := List.mem_map.1 hy
              have := HLL.out z (by rw [HEX.out]; exact List.mem_append_left _ hz)
              simp only; omega
            · have := HLL.out y (by rw [HEX.out]; exact List.mem_append_right _ hy)
              omega)⟩,
          by rw [HCN.out]; exact (heap_setCell_same Y _ 0 _ _ _ q3).trans (by simp), hk2.heap (by simp) q4, HC1.out, HCL.out, q2.trans hk2 (fun j hj => by simp at hj; subst hj; exact .inr (by omega))⟩)
      clear q1 q2 q3 q4 hk hn hk2
      gi_wp2
      exact HE.out _
  case done =>
    rintro D C X hD hCD h hK
    have hbD : w.heap.size + 1 < D := by omega
    obtain ⟨post, e, hln⟩ := h.ln
    have e3 : post = [] := @List.append_cancel_left _ L _ _ (by rw [← e]; simp)
    rw [e3, List.append_nil] at hln
    have ccb := cofr h.cb 0 _ rfl
    have hk2 : Kept [D] X (X.putObj D (.deferred none)) := ⟨rfl, rfl, rfl, by simp, fun k _ hk' => World.putObj_heap_other (by simpa using hk')⟩
    have HK := Lib.hid hK
    have HF : Hid (Ln (X.putObj D (.deferred none)) B s T (mapN Rc.spare L) ∧ Kept (L.map (·.1)) w (X.putObj D (.deferred none))) := Lib.hid ⟨hln.kept hk2 (by simp; omega) (fun y hy => by
      obtain ⟨z, hz, rfl⟩ := List.mem_map.1 hy
      have := HLL.out z hz
      simp only [List.mem_singleton]; omega), h.kept.trans hk2 (fun j hj => by simp at hj; subst hj; exact .inr (by omega))⟩
    clear h e e3 hln hk2 hK HSEQ HI
    gi_wp2
    refine ⟨by simp, .inl ⟨_, _, rfl, run_takeDeferred HK.out, ?_⟩⟩
    exact ⟨.int .i64 (cnt (fun r => r.lost) L : Int), by simp [results, Tryz.results75, go_sem], rfl, HF.out⟩
  case stop =>
    rintro D c pre C X _ _ h _
    exact h.elim
set_option maxRecDepth 100000 in
set_option maxHeartbeats 4000000 in
theorem changed_none_lose (w : World) : Calls Tryz.prog 75 #[.pointer none, .func (.methodOf 92 "undertow/book.lose") #[] #[]] w fun e w' => e = .returned (.int .i64 0) ∧ Below w.heap.size w w' := by
  obtain ⟨W2, hW2⟩ : ∃ W2, W2 = (w.alloc (.cells #[.func (.methodOf 92 "undertow/book.lose") #[] #[]] 126)).alloc (.cells #[.int .i64 0] 3) := ⟨_, rfl⟩
  have b2 : Below w.heap.size w W2 := by rw [hW2]; exact ((Below.refl _ _).alloc (Nat.le_refl _) _).alloc (by simp) _
  have z2 : W2.heap.size = w.heap.size + 2 := by rw [hW2]; simp
  have b3 := al W2 (.cells #[.pointer none] 28)
  have y3 := cofr (heap_alloc_new W2 (.cells #[.pointer none] 28)) 0 _ rfl
  have b23 := b2.trans (b3.mono b2.size)
  have hc : (W2.alloc (.cells #[.pointer none] 28)).heap[w.heap.size + 1]? = some (.cells #[.int .i64 0] 3 (0, 0)) := by
    refine (b3.block _ (by omega)).trans ?_
    rw [hW2]
    have := heap_alloc_new (w.alloc (.cells #[.func (.methodOf 92 "undertow/book.lose") #[] #[]] 126)) (.cells #[.int .i64 0] 3)
    rw [World.size_alloc] at this
    exact this
  have HSEQ := Lib.hid (inorder1_seqR (L := []) (A := fun _ => True) (bx := W2.heap.size) (.inl ⟨rfl, rfl⟩) List.Pairwise.nil y3)
  have HC := Lib.hid hc
  have HB := Lib.hid b23
  clear hc y3
  refine (callsIn_wide (n := 6)).1 ?_
  refine callsIn_of_wp_marks Tryz.func75 rfl trivial ?_ rfl
  simp only [Tryz.ntmps75, List.size_toArray, List.length_cons, List.length_nil, Nat.reduceAdd, Nat.reduceSub, Array.replicate_succ, Array.replicate_zero, List.push_toArray, List.append_toArray, List.nil_append, List.cons_append]
  gi_wp2
  rw [← hW2]
  clear hW2
  refine ⟨trivial, ?_⟩
  refine (callsIn_wide.2 (inorder_call _ _)).mono ?_
  rintro e w3 ⟨rfl, rfl⟩
  have hz3 : (W2.alloc (.cells #[.pointer none] 28)).heap.size = w.heap.size + 3 := by simp [z2]
  generalize W2.alloc (.cells #[.pointer none] 28) = W3 at *
  clear b2 b3 b23 z2
  gi_wp2
  refine wpIn_rangeRF (fun (y : Nd) (t : Array Value) => (t.setIfInBounds 9 (.pointer (some ⟨y.1, 0, none⟩))).setIfInBounds 6 (.pointer (some ⟨y.1, 0, none⟩))) (gf := 99) (lb := #[.pointer (some ⟨W2.heap.size, 0, none⟩)]) (L := []) (A := fun _ => True) (w0 := W3) (encs := nE) rfl eg_in HSEQ.out (Below.refl _ _) (fun _ => rfl)
    (fun _ C X => X.heap[w.heap.size + 1]? = some (.cells #[.int .i64 0] 3 (0, 0)) ∧ Below w.heap.size w X) (fun _ _ _ _ => False) (fun k => k = w.heap.size + 1) ?hc0 ?hI (fun _ _ _ _ _ h _ _ => h.elim) ⟨HC.out, HB.out⟩ ?hRD ?assign ?body ?done ?stop
  case hc0 =>
    rintro k rfl
    exact ⟨.inl trivial, by omega⟩
  case hI =>
    rintro pre C X Y ⟨h1, h2⟩ hz hs
    exact ⟨hs.heap (.inl (by omega)) h1, h2.trans (hs.below h2.size (fun k hk => .inl (by omega)))⟩
  case hRD =>
    rintro pre x post C X e h
    simp at e
  case assign =>
    intro l' x X K hK
    gi_wp2
    exact hK
  case body =>
    rintro l' pre x C X h hp hcc hzX
    exact absurd hp.length_le (by simp)
  case done =>
    rintro D C X hD hCD ⟨h1, h2⟩ hK
    have hbD : w.heap.size + 1 < D := by omega
    have ccb := cofr h1 0 _ rfl
    have hk2 : Kept [D] X (X.putObj D (.deferred none)) := ⟨rfl, rfl, rfl, by simp, fun k _ hk' => World.putObj_heap_other (by simpa using hk')⟩
    have HK := Lib.hid hK
    have HF : Hid (Below w.heap.size w (X.putObj D (.deferred none))) := Lib.hid (h2.trans (hk2.below (by simp; omega) h2.size))
    clear h1 h2 hk2 hK HSEQ HC HB
    gi_wp2
    refine ⟨by simp, .inl ⟨_, _, rfl, run_takeDeferred HK.out, ?_⟩⟩
    exact ⟨.int .i64 0, by simp [results, Tryz.results75, go_sem], rfl, HF.out⟩
  case stop =>
    rintro D c pre C X _ _ h _
    exact h.elim
set_option maxRecDepth 100000 in
set_option maxHeartbeats 4000000 in
theorem changed_none_spare (w : World) : Calls Tryz.prog 75 #[.pointer none, .func (.methodOf 92 "undertow/book.spare") #[] #[]] w fun e w' => e = .returned (.int .i64 0) ∧ Below w.heap.size w w' := by
  obtain ⟨W2, hW2⟩ : ∃ W2, W2 = (w.alloc (.cells #[.func (.methodOf 92 "undertow/book.spare") #[] #[]] 126)).alloc (.cells #[.int .i64 0] 3) := ⟨_, rfl⟩
  have b2 : Below w.heap.size w W2 := by rw [hW2]; exact ((Below.refl _ _).alloc (Nat.le_refl _) _).alloc (by simp) _
  have z2 : W2.heap.size = w.heap.size + 2 := by rw [hW2]; simp
  have b3 := al W2 (.cells #[.pointer none] 28)
  have y3 := cofr (heap_alloc_new W2 (.cells #[.pointer none] 28)) 0 _ rfl
  have b23 := b2.trans (b3.mono b2.size)
  have hc : (W2.alloc (.cells #[.pointer none] 28)).heap[w.heap.size + 1]? = some (.cells #[.int .i64 0] 3 (0, 0)) := by
    refine (b3.block _ (by omega)).trans ?_
    rw [hW2]
    have := heap_alloc_new (w.alloc (.cells #[.func (.methodOf 92 "undertow/book.spare") #[] #[]] 126)) (.cells #[.int .i64 0] 3)
    rw [World.size_alloc] at this
    exact this
  have HSEQ := Lib.hid (inorder1_seqR (L := []) (A := fun _ => True) (bx := W2.heap.size) (.inl ⟨rfl, rfl⟩) List.Pairwise.nil y3)
  have HC := Lib.hid hc
  have HB := Lib.hid b23
  clear hc y3
  refine (callsIn_wide (n := 6)).1 ?_
  refine callsIn_of_wp_marks Tryz.func75 rfl trivial ?_ rfl
  simp only [Tryz.ntmps75, List.size_toArray, List.length_cons, List.length_nil, Nat.reduceAdd, Nat.reduceSub, Array.replicate_succ, Array.replicate_zero, List.push_toArray, List.append_toArray, List.nil_append, List.cons_append]
  gi_wp2
  rw [← hW2]
  clear hW2
  refine ⟨trivial, ?_⟩
  refine (callsIn_wide.2 (inorder_call _ _)).mono ?_
  rintro e w3 ⟨rfl, rfl⟩
  have hz3 : (W2.alloc (.cells #[.pointer none] 28)).heap.size = w.heap.size + 3 := by simp [z2]
  generalize W2.alloc (.cells #[.pointer none] 28) = W3 at *
  clear b2 b3 b23 z2
  gi_wp2
  refine wpIn_rangeRF (fun (y : Nd) (t : Array Value) => (t.setIfInBounds 9 (.pointer (some ⟨y.1, 0, none⟩))).setIfInBounds 6 (.pointer (some ⟨y.1, 0, none⟩))) (gf := 99) (lb := #[.pointer (some ⟨W2.heap.size, 0, none⟩)]) (L := []) (A := fun _ => True) (w0 := W3) (encs := nE) rfl eg_in HSEQ.out (Below.refl _ _) (fun _ => rfl)
    (fun _ C X => X.heap[w.heap.size + 1]? = some (.cells #[.int .i64 0] 3 (0, 0)) ∧ Below w.heap.size w X) (fun _ _ _ _ => False) (fun k => k = w.heap.size + 1) ?hc0 ?hI (fun _ _ _ _ _ h _ _ => h.elim) ⟨HC.out, HB.out⟩ ?hRD ?assign ?body ?done ?stop
  case hc0 =>
    rintro k rfl
    exact ⟨.inl trivial, by omega⟩
  case hI =>
    rintro pre C X Y ⟨h1, h2⟩ hz hs
    exact ⟨hs.heap (.inl (by omega)) h1, h2.trans (hs.below h2.size (fun k hk => .inl (by omega)))⟩
  case hRD =>
    rintro pre x post C X e h
    simp at e
  case assign =>
    intro l' x X K hK
    gi_wp2
    exact hK
  case body =>
    rintro l' pre x C X h hp hcc hzX
    exact absurd hp.length_le (by simp)
  case done =>
    rintro D C X hD hCD ⟨h1, h2⟩ hK
    have hbD : w.heap.size + 1 < D := by omega
    have ccb := cofr h1 0 _ rfl
    have hk2 : Kept [D] X (X.putObj D (.deferred none)) := ⟨rfl, rfl, rfl, by simp, fun k _ hk' => World.putObj_heap_other (by simpa using hk')⟩
    have HK := Lib.hid hK
    have HF : Hid (Below w.heap.size w (X.putObj D (.deferred none))) := Lib.hid (h2.trans (hk2.below (by simp; omega) h2.size))
    clear h1 h2 hk2 hK HSEQ HC HB
    gi_wp2
    refine ⟨by simp, .inl ⟨_, _, rfl, run_takeDeferred HK.out, ?_⟩⟩
    exact ⟨.int .i64 0, by simp [results, Tryz.results75, go_sem], rfl, HF.out⟩
  case stop =>
    rintro D c pre C X _ _ h _
    exact h.elim
theorem loseall_yes {w : World} {B T : Nat} {s : Hd} {N L : List Nd} (h : Bk w B T s N L) (ho : Ord L) (hn : L.length ≤ 1000000) :
    Calls Tryz.prog 30 #[.pointer (some ⟨B, 0, none⟩)] w fun e w' => e = .returned (.int .i64 (cnt (fun r => !r.lost) L : Int)) ∧ Bk w' B T s (mapN Rc.lose N) (mapN Rc.lose L) ∧ Kept (L.map (·.1)) w w' := by
  have HC := Lib.hid (changed_lose h.ln ho hn)
  have HM := Lib.hid (fun w' hk hl => h.mapped (w' := w') fx_lose hk hl)
  clear h
  go_enter Tryz.func30, Tryz.ntmps30
  go_wp2_with (go_at_call 75; (with_reducible refine HC.out.mono ?_); rintro e w2 ⟨rfl, hl, hk⟩)
  go_ret
  exact ⟨rfl, HM.out _ hk hl, hk⟩
theorem loseall_none (w : World) : Calls Tryz.prog 30 #[.pointer none] w fun e w' => e = .returned (.int .i64 0) ∧ Below w.heap.size w w' := by
  have HC := Lib.hid (changed_none_lose w)
  go_enter Tryz.func30, Tryz.ntmps30
  go_wp2_with (go_at_call 75; (with_reducible refine HC.out.mono ?_); rintro e w2 ⟨rfl, hk⟩)
  go_ret
  exact ⟨rfl, hk⟩
theorem spareall_yes {w : World} {B T : Nat} {s : Hd} {N L : List Nd} (h : Bk w B T s N L) (ho : Ord L) (hn : L.length ≤ 1000000) :
    Calls Tryz.prog 31 #[.pointer (some ⟨B, 0, none⟩)] w fun e w' => e = .returned (.int .i64 (cnt (fun r => r.lost) L : Int)) ∧ Bk w' B T s (mapN Rc.spare N) (mapN Rc.spare L) ∧ Kept (L.map (·.1)) w w' := by
  have HC := Lib.hid (changed_spare h.ln ho hn)
  have HM := Lib.hid (fun w' hk hl => h.mapped (w' := w') fx_spare hk hl)
  clear h
  go_enter Tryz.func31, Tryz.ntmps31
  go_wp2_with (go_at_call 75; (with_reducible refine HC.out.mono ?_); rintro e w2 ⟨rfl, hl, hk⟩)
  go_ret
  exact ⟨rfl, HM.out _ hk hl, hk⟩
theorem spareall_none (w : World) : Calls Tryz.prog 31 #[.pointer none] w fun e w' => e = .returned (.int .i64 0) ∧ Below w.heap.size w w' := by
  have HC := Lib.hid (changed_none_spare w)
  go_enter Tryz.func31, Tryz.ntmps31
  go_wp2_with (go_at_call 75; (with_reducible refine HC.out.mono ?_); rintro e w2 ⟨rfl, hk⟩)
  go_ret
  exact ⟨rfl, hk⟩
end Go.Proofs.YtohpaoleomcimaaGreat.bk
/-!   Package book: what has come is let go, of a book without records.
-/
namespace Go.Proofs.YtohpaoleomcimaaGreat.bk
open Go.RowKit Go.Shelf aid mem rng sp rn bd
attribute [local go_sem] Oper.semAt_some
set_option linter.unusedVariables false
set_option linter.unusedSimpArgs false

theorem cutbelow_no {w : World} {p : Option Addr} (h : BO w p [] []) (u : Int) : Calls Tryz.prog 66 #[.pointer p, .int .i64 u] w fun e w' => (∃ v, e = .returned v) ∧ Below w.heap.size w w' := by
  have HT := Lib.hid (tree_any (Below.refl _ _) h)
  have HA : Hid (∀ q' t, cv.TrO w q' t → t.toL = kvN [] → Calls Tryz.prog 72 #[.pointer q', .int .i64 0] w fun e w' => e = .returned (.tuple #[.int .i64 0, .pointer none, .bool false]) ∧ Below w.heap.size w w') := Lib.hid (fun q' t hq ht' => by
    have := cv.tat_any hq 0 (by omega) (by rw [size_kv ht']; simp)
    rw [ht'] at this
    exact this)
  clear h
  go_enter Tryz.func66, Tryz.ntmps66
  go_wp2_with (first
    | (go_at_call 55; (with_reducible refine HT.out.mono ?_); rintro e w2 ⟨rfl, q', rfl, t, hq, ht⟩; have HA2 := Lib.hid (HA.out q' t hq ht); clear hq ht)
    | (go_at_call 72; (with_reducible refine HA2.out.mono ?_); rintro e w3 ⟨rfl, h3⟩))
  go_end0
  exact ⟨⟨_, rfl⟩, h3⟩
set_option maxRecDepth 100000 in
set_option maxHeartbeats 4000000 in
theorem deliver_no {w : World} {p px : Option Addr} {s : Bs} (h : BO w p [] []) (hx : BdO w px s) :
    Calls Tryz.prog 18 #[.pointer p, .pointer px] w fun e w' => e = .returned (.slice none 0 0) ∧ Below w.heap.size w w' := by
  obtain ⟨W2, hW2⟩ : ∃ W2, W2 = ((w.alloc (.cells #[.pointer p] 28)).alloc (.cells #[.pointer px] 29)).alloc (.cells #[.slice none 0 0] 45) := ⟨_, rfl⟩
  have b2 : Below w.heap.size w W2 := by rw [hW2]; exact (((Below.refl _ _).alloc (Nat.le_refl _) _).alloc (by simp) _).alloc (by simp <;> omega) _
  have z2 : W2.heap.size = w.heap.size + 3 := by rw [hW2]; simp
  have c0 : W2.heap[w.heap.size]? = some (.cells #[.pointer p] 28 (0, 0)) := by
    rw [hW2]
    exact ((al _ _).block w.heap.size (by simp only [World.size_alloc]; omega)).trans (((al _ _).block w.heap.size (by simp only [World.size_alloc]; omega)).trans (heap_alloc_new w _))
  have c1 : W2.heap[w.heap.size + 1]? = some (.cells #[.pointer px] 29 (0, 0)) := by
    rw [hW2]
    have := heap_alloc_new (w.alloc (.cells #[.pointer p] 28)) (.cells #[.pointer px] 29)
    rw [World.size_alloc] at this
    exact ((al _ _).block (w.heap.size + 1) (by simp only [World.size_alloc]; omega)).trans this
  have c2 : W2.heap[w.heap.size + 2]? = some (.cells #[.slice none 0 0] 45 (0, 0)) := by
    rw [hW2]
    have := heap_alloc_new ((w.alloc (.cells #[.pointer p] 28)).alloc (.cells #[.pointer px] 29)) (.cells #[.slice none 0 0] 45)
    rw [World.size_alloc, World.size_alloc] at this
    exact this
  have b3 := al W2 (.cells #[.pointer p] 28)
  have y3 := cofr (heap_alloc_new W2 (.cells #[.pointer p] 28)) 0 _ rfl
  have b23 := b2.trans (b3.mono b2.size)
  have HSEQ := Lib.hid (inorder1_seqR (L := []) (A := fun _ => True) (bx := W2.heap.size) (h.later b23).lr List.Pairwise.nil y3)
  have HC0 := Lib.hid ((b3.block _ (by omega)).trans c0)
  have HC1 := Lib.hid ((b3.block _ (by omega)).trans c1)
  have HC2 := Lib.hid ((b3.block _ (by omega)).trans c2)
  have HB := Lib.hid b23
  have k0 := cofr c0 0 _ rfl
  have HU := Lib.hid (fun W (hW : Below w.heap.size w W) => una_any (hx.later hW))
  have HCB := Lib.hid (fun W (hW : Below w.heap.size w W) u => cutbelow_no (h.later hW) u)
  have hMO : Tryz.prog.follows .mixedOrders = true := by kernel_rfl
  clear y3 h hx c0 c1 c2
  refine (callsIn_wide (n := 6)).1 ?_
  refine callsIn_of_wp_marks Tryz.func18 rfl trivial ?_ rfl
  simp only [Tryz.ntmps18, List.size_toArray, List.length_cons, List.length_nil, Nat.reduceAdd, Nat.reduceSub, Array.replicate_succ, Array.replicate_zero, List.push_toArray, List.append_toArray, List.nil_append, List.cons_append]
  gi_wp2
  rw [← hW2]
  clear hW2
  refine ⟨trivial, ?_⟩
  refine (callsIn_wide.2 (inorder_call _ _)).mono ?_
  rintro e w3 ⟨rfl, rfl⟩
  have hz3 : (W2.alloc (.cells #[.pointer p] 28)).heap.size = w.heap.size + 4 := by simp [z2]
  generalize W2.alloc (.cells #[.pointer p] 28) = W3 at *
  clear b2 b3 b23 z2 k0
  gi_wp2
  refine wpIn_rangeRF (fun (y : Nd) (t : Array Value) => (t.setIfInBounds 9 (.pointer (some ⟨y.1, 0, none⟩))).setIfInBounds 6 (.pointer (some ⟨y.1, 0, none⟩))) (gf := 99) (lb := #[.pointer (some ⟨W2.heap.size, 0, none⟩)]) (L := []) (A := fun _ => True) (w0 := W3) (encs := nE) rfl eg_in HSEQ.out (Below.refl _ _) (fun _ => rfl)
    (fun _ C X => X.heap[w.heap.size]? = some (.cells #[.pointer p] 28 (0, 0)) ∧ X.heap[w.heap.size + 1]? = some (.cells #[.pointer px] 29 (0, 0)) ∧ X.heap[w.heap.size + 2]? = some (.cells #[.slice none 0 0] 45 (0, 0)) ∧ Below w.heap.size w X) (fun _ _ _ _ => False) (fun k => k = w.heap.size + 2) ?hc0 ?hI (fun _ _ _ _ _ h _ _ => h.elim) ⟨HC0.out, HC1.out, HC2.out, HB.out⟩ ?hRD ?assign ?body ?done ?stop
  case hc0 =>
    rintro k rfl
    exact ⟨.inl trivial, by omega⟩
  case hI =>
    rintro pre C X Y ⟨h0, h1, h2, h3⟩ hz hs
    exact ⟨hs.heap (.inl (by omega)) h0, hs.heap (.inl (by omega)) h1, hs.heap (.inl (by omega)) h2, h3.trans (hs.below h3.size (fun k hk => .inl (by omega)))⟩
  case hRD =>
    rintro pre x post C X e h
    simp at e
  case assign =>
    intro l' x X K hK
    gi_wp2
    exact hK
  case body =>
    rintro l' pre x C X h hp hcc hzX
    exact absurd hp.length_le (by simp)
  case done =>
    rintro D C X hD hCD ⟨h0, h1, h2, h3⟩ hK
    have hbD : w.heap.size + 2 < D := by omega
    have q0 := cofr h0 0 _ rfl
    have q1 := cofr h1 0 _ rfl
    have q2 := cofr h2 0 _ rfl
    have HK := Lib.hid hK
    have H3 := Lib.hid h3
    have H2 := Lib.hid h2
    have HUD := Lib.hid (HU.out X.drew (h3.trans (Below.refl _ _).drew))
    have HCD := Lib.hid (HCB.out X.drew (h3.trans (Below.refl _ _).drew))
    have H3D : Hid (Below w.heap.size w X.drew) := Lib.hid (h3.trans (Below.refl _ _).drew)
    have hHeld : (fun w' : World => w'.cell? ⟨w.heap.size, 0, none⟩ = some (.pointer p) ∧ w'.cell? ⟨w.heap.size + 1, 0, none⟩ = some (.pointer px)) X.drew := ⟨q0, q1⟩
    clear h0 h1 h2 h3 hK HSEQ HC0 HC1 HC2 HB q0 q1 q2
    gi_wp2
    refine wpIn_region_in (S := (fun w' : World => w'.cell? ⟨w.heap.size, 0, none⟩ = some (.pointer p) ∧ w'.cell? ⟨w.heap.size + 1, 0, none⟩ = some (.pointer px))) hMO ?_
    refine wpAnyH_take (i := 0) (oi := _) (v := ?_) rfl (by kernel_rfl) (by kernel_rfl) (by kernel_rfl) (fun _ _ _ h => h) (Or.inl ⟨by kernel_rfl, ?_⟩) (by assumption) ?_
    rotate_left
    · (first | (intro v hSw; (try dsimp only at hSw); go_simp; done) | (intro v hSw; (try dsimp only at hSw); go_simp; with_reducible rfl))
    (try simp only [List.getElem_toArray, List.getElem_cons_succ, List.getElem_cons_zero, Act.put, List.setIfInBounds_toArray, List.set_cons_zero, List.set_cons_succ])
    refine wpAnyH_take (i := 1) (oi := _) (v := ?_) rfl (by kernel_rfl) (by kernel_rfl) (by kernel_rfl) (fun _ _ _ h => h) (Or.inl ⟨by kernel_rfl, ?_⟩) (by assumption) ?_
    rotate_left
    · (first | (intro v hSw; (try dsimp only at hSw); go_simp; done) | (intro v hSw; (try dsimp only at hSw); go_simp; with_reducible rfl))
    (try simp only [List.getElem_toArray, List.getElem_cons_succ, List.getElem_cons_zero, Act.put, List.setIfInBounds_toArray, List.set_cons_zero, List.set_cons_succ])
    refine wpAnyH_ready (rs := [2]) (by kernel_rfl) (by simp) ?_
    refine AllReadyH.cons (o := _) rfl (fun K hK => ?_) AllReadyH.nil
    go_simp
    (with_reducible refine HUD.out.mono ?_)
    rintro e v3 ⟨rfl, rfl⟩
    refine hK.out _ _ ?_ (fun hHeld => ?_)
    · ((try dsimp only); exact hHeld)
    clear hK K
    (try simp only [List.getElem_toArray, List.getElem_cons_succ, List.getElem_cons_zero, Act.put, List.setIfInBounds_toArray, List.set_cons_zero, List.set_cons_succ])
    refine wpAnyH_ready (rs := [3]) (by kernel_rfl) (by simp) ?_
    refine AllReadyH.cons (o := _) rfl (fun K hK => ?_) AllReadyH.nil
    go_simp
    (with_reducible refine (HCD.out _).mono ?_)
    rintro e v4 ⟨⟨v, rfl⟩, h4⟩
    have k0 := And.intro (ck h4 hHeld.1) (ck h4 hHeld.2)
    clear hHeld
    refine hK.out _ _ ?_ (fun hHeld => ?_)
    · ((try dsimp only); exact k0)
    clear hK K
    (try simp only [List.getElem_toArray, List.getElem_cons_succ, List.getElem_cons_zero, Act.put, List.setIfInBounds_toArray, List.set_cons_zero, List.set_cons_succ])
    refine wpAnyH_done (by kernel_rfl) ?_ _
    refine OnlyN.normal ?_
    clear hHeld k0
    have hd4 : Below X.heap.size X v4 := ⟨h4.os, h4.tape, h4.output, h4.size, h4.block⟩
    have q2 := cofr ((hd4.block _ (lt_of_block H2.out)).trans H2.out) 0 _ rfl
    have HK2 := Lib.hid ((hd4.block _ (lt_of_block HK.out)).trans HK.out)
    have hb4 := H3.out.trans (hd4.mono H3.out.size)
    have hk2 : Kept [D] v4 (v4.putObj D (.deferred none)) := ⟨rfl, rfl, rfl, by simp, fun k _ hk' => World.putObj_heap_other (by simpa using hk')⟩
    have HF := Lib.hid (hb4.trans (hk2.below (by simp; omega) hb4.size))
    clear h4 hd4 hb4 hk2
    gi_wp2
    refine ⟨by simp, .inl ⟨_, _, rfl, run_takeDeferred HK2.out, ?_⟩⟩
    exact ⟨.slice none 0 0, by simp [results, Tryz.results18, go_sem], rfl, HF.out⟩
  case stop =>
    rintro D c pre C X _ _ h _
    exact h.elim
end Go.Proofs.YtohpaoleomcimaaGreat.bk
/-!   Layer 14's reference: lists of records in memory.
-/
namespace Go.Proofs.YtohpaoleomcimaaGreat.bk
open Go.RowKit aid mem
attribute [local go_sem ↓] Go.wp_at_zero Go.wp_at_succ
set_option linter.unusedVariables false

def rcL (r : Rc) : List Value := [.int .i64 r.f, .int .i64 r.t, .int .i64 r.sent, .int .i64 r.order, .int .i64 r.times, .int .i64 r.out, .bool r.lost]
def rcCells (l : List Rc) : List Value := l.flatMap rcL
theorem rcCells_len (l : List Rc) : (rcCells l).length = l.length * 7 := by
  induction l with
  | nil => rfl
  | cons x l ih => show (rcL x ++ rcCells l).length = _; rw [List.length_append, ih]; simp [rcL]; omega
theorem rcCells_append (l r : List Rc) : rcCells (l ++ r) = rcCells l ++ rcCells r := by simp [rcCells]
theorem rcCells_get : ∀ (l : List Rc) (i j : Nat), i < l.length → j < 7 → (rcCells l)[i * 7 + j]? = (rcL (l.getD i Rc.zero))[j]? := by
  intro l
  induction l with
  | nil => intro i j hi; simp at hi
  | cons x l ih =>
    intro i j hi hj
    have e : rcCells (x :: l) = rcL x ++ rcCells l := rfl
    have hl : (rcL x).length = 7 := rfl
    rw [e]
    cases i with
    | zero =>
      rw [List.getElem?_append_left (by omega)]
      simp
    | succ i =>
      have := ih i j (by simpa using hi) hj
      rw [List.getElem?_append_right (by omega), show (i + 1) * 7 + j - (rcL x).length = i * 7 + j from by omega, this]
      simp
/-- a record lies there -/
abbrev RcCs (w : World) (b o : Nat) (r : Rc) : Prop := w.cell? ⟨b, o, none⟩ = some (.int .i64 r.f) ∧ w.cell? ⟨b, o + 1, none⟩ = some (.int .i64 r.t) ∧ w.cell? ⟨b, o + 2, none⟩ = some (.int .i64 r.sent) ∧ w.cell? ⟨b, o + 3, none⟩ = some (.int .i64 r.order) ∧ w.cell? ⟨b, o + 4, none⟩ = some (.int .i64 r.times) ∧ w.cell? ⟨b, o + 5, none⟩ = some (.int .i64 r.out) ∧ w.cell? ⟨b, o + 6, none⟩ = some (.bool r.lost)
/-- a list of records that is read -/
structure RcA (w : World) (a : Option Addr) (n cap : Nat) (l : List Rc) : Prop where
  len : l.length = n
  le : n ≤ cap
  most : cap ≤ maxLen
  cells : (a = none ∧ cap = 0) ∨ ∃ b off, a = some ⟨b, off, none⟩ ∧ ∀ i, i < n → RcCs w b (off + i * 7) (l.getD i Rc.zero)
theorem ckl {w w' : World} {p : Addr} {v : Value} (hb : Below w.heap.size w w') (h : w.cell? p = some v) : w'.cell? p = some v := (hb.cell (World.block_lt_of_cell? w p h)).trans h
theorem RcCs.later {w w' : World} {b o : Nat} {r : Rc} (h : RcCs w b o r) (hb : Below w.heap.size w w') : RcCs w' b o r :=
  ⟨ckl hb h.1, ckl hb h.2.1, ckl hb h.2.2.1, ckl hb h.2.2.2.1, ckl hb h.2.2.2.2.1, ckl hb h.2.2.2.2.2.1, ckl hb h.2.2.2.2.2.2⟩
theorem RcA.later {w w' : World} {a : Option Addr} {n cap : Nat} {l : List Rc} (h : RcA w a n cap l) (hb : Below w.heap.size w w') : RcA w' a n cap l :=
  ⟨h.len, h.le, h.most, h.cells.imp id (fun ⟨b, off, ha, hc⟩ => ⟨b, off, ha, fun i hi => RcCs.later (hc i hi) hb⟩)⟩
theorem RcA.nil (w : World) : RcA w none 0 0 [] := ⟨rfl, Nat.le_refl _, by unfold maxLen; omega, .inl ⟨rfl, rfl⟩⟩
theorem own_rc {w : World} {base : Nat} {v : Value} {n : Nat} {l : List Rc} (h : w.ownsRow base 74 7 v n (rcCells l)) : ∃ a cap, v = .slice a n cap ∧ RcA w a n cap l := by
  have hl : l.length = n := by have := h.1; rw [rcCells_len] at this; omega
  rcases h.2 with ⟨rfl, rfl⟩ | ⟨g, cap, cur, rfl, hb, hg, hn, hm, hc, ht⟩
  · exact ⟨none, 0, rfl, hl, Nat.le_refl _, by unfold maxLen; omega, .inl ⟨rfl, rfl⟩⟩
  · refine ⟨_, cap, rfl, hl, hn, hm, .inr ⟨g, 0, rfl, fun i hi => ?_⟩⟩
    have key : ∀ j, j < 7 → w.cell? ⟨g, 0 + i * 7 + j, none⟩ = (rcL (l.getD i Rc.zero))[j]? := by
      intro j hj
      have e := rcCells_get l i j (by omega) hj
      rw [← ht, List.getElem?_take, if_pos (by omega)] at e
      rw [Nat.zero_add, cell_of_row w g _ cur _ (0, 0) hg, ← e]
      simp
    exact ⟨(key 0 (by omega)).trans rfl, (key 1 (by omega)).trans rfl, (key 2 (by omega)).trans rfl, (key 3 (by omega)).trans rfl, (key 4 (by omega)).trans rfl, (key 5 (by omega)).trans rfl, (key 6 (by omega)).trans rfl⟩
theorem RcA.src {w : World} {a : Option Addr} {n cap : Nat} {l : List Rc} (h : RcA w a n cap l) : Src Tryz.prog 7 30 (.slice a n cap) n (rcCells l) w := by
  have hl : (rcCells l).length = n * 7 := by rw [rcCells_len, h.len]
  have h1 : ∀ u ∈ rcCells l, u.oneCell' = true := by
    intro u hu
    unfold rcCells at hu
    obtain ⟨x, _, hx⟩ := List.mem_flatMap.1 hu
    simp [rcL] at hx
    rcases hx with rfl | rfl | rfl | rfl | rfl | rfl | rfl <;> rfl
  rcases h.cells with ⟨rfl, h0⟩ | ⟨b, off, rfl, hc⟩
  · have hn : n = 0 := by have := h.le; omega
    subst hn
    obtain rfl : l = [] := List.eq_nil_of_length_eq_zero h.len
    exact Src.ofNil w Tryz.underlying30 cap
  · refine Src.ofSlice w Tryz.underlying30 ⟨b, off, none⟩ n cap _ hl ?_ h1
    intro j u hu
    have hj : j < n * 7 := by rw [← hl]; exact (List.getElem?_eq_some_iff.1 hu).1
    have hadd : (⟨b, off, none⟩ : Addr).add j = ⟨b, off + j, none⟩ := by unfold Addr.add; split <;> simp_all
    rw [hadd]
    obtain ⟨c0, c1, c2, c3, c4, c5, c6⟩ := hc (j / 7) (by omega)
    have e := rcCells_get l (j / 7) (j % 7) (by rw [h.len]; omega) (by omega)
    rw [show j / 7 * 7 + j % 7 = j from by omega] at e
    rw [e] at hu
    have hm : j % 7 = 0 ∨ j % 7 = 1 ∨ j % 7 = 2 ∨ j % 7 = 3 ∨ j % 7 = 4 ∨ j % 7 = 5 ∨ j % 7 = 6 := by omega
    rw [show off + j = off + j / 7 * 7 + j % 7 from by omega]
    rcases hm with h | h | h | h | h | h | h <;> rw [h] at hu ⊢ <;> (simp [rcL] at hu; subst hu; assumption)
theorem rc_empty (w : World) : (w.alloc (.cells #[] 74)).ownsRow w.heap.size 74 7 (.slice (some ⟨w.heap.size, 0, none⟩) 0 0) 0 (rcCells []) :=
  ⟨rfl, .inr ⟨w.heap.size, 0, #[], rfl, Nat.le_refl _, heap_alloc_new w _, Nat.le_refl _, by unfold maxLen; omega, rfl, rfl⟩⟩
theorem rc_one (X : World) (r : Rc) : Src Tryz.prog 7 30 (.slice (some ⟨X.heap.size, 0, none⟩) 1 1) 1 (rcCells [r]) (X.alloc (.cells #[.int .i64 r.f, .int .i64 r.t, .int .i64 r.sent, .int .i64 r.order, .int .i64 r.times, .int .i64 r.out, .bool r.lost] 74)) := by
  refine Src.ofSlice _ Tryz.underlying30 ⟨X.heap.size, 0, none⟩ 1 1 _ rfl ?_ (by simp [rcCells, rcL, Value.oneCell'])
  intro j u hu
  have := cell_of_row (X.alloc (.cells #[.int .i64 r.f, .int .i64 r.t, .int .i64 r.sent, .int .i64 r.order, .int .i64 r.times, .int .i64 r.out, .bool r.lost] 74)) X.heap.size j _ _ (0, 0) (heap_alloc_new X _)
  have hadd : (⟨X.heap.size, 0, none⟩ : Addr).add j = ⟨X.heap.size, 0 + j, none⟩ := by unfold Addr.add; split <;> simp_all
  rw [hadd, Nat.zero_add, this, ← hu]
  simp [rcCells, rcL]
theorem info_rec : (Tryz.prog.info? 74).map (fun i => (i.zero, i.size, i.bytes)) = some (some (.agg #[.int .i64 0, .int .i64 0, .int .i64 0, .int .i64 0, .int .i64 0, .int .i64 0, .bool false]), 7, 56) := by kernel_rfl
/-- the document's book -/
structure Rb where
  l : List Rc
  nxt : Int
  last : Int
  order : Int
abbrev rbV (a : Option Addr) (n cap : Nat) (b : Rb) : Value := .agg #[.slice a n cap, .int .i64 b.nxt, .int .i64 b.last, .int .i64 b.order]
end Go.Proofs.YtohpaoleomcimaaGreat.bk
/-!   Layer 14's list of records (all). (Written by gen_bokq.py.)
-/
namespace Go.Proofs.YtohpaoleomcimaaGreat.bk
open Go.RowKit Go.Shelf aid mem rng sp rn bd
attribute [local go_sem] Oper.semAt_some
set_option linter.unusedVariables false
set_option linter.unusedSimpArgs false

theorem info_brec : (Tryz.prog.info? 50).map (fun i => (i.zero, i.size, i.bytes)) = some (some (.agg #[.int .i64 0, .int .i64 0, .int .i64 0, .int .i64 0, .int .i64 0, .int .i64 0, .bool false]), 7, 56) := by kernel_rfl
theorem brec_src (X : World) (r : Rc) : Src Tryz.prog 7 45 (.slice (some ⟨X.heap.size, 0, none⟩) 1 1) 1 (rcL r) (X.alloc (rcB r)) := by
  refine Src.ofSlice _ Tryz.underlying45 ⟨X.heap.size, 0, none⟩ 1 1 _ rfl ?_ (by simp [rcL, Value.oneCell'])
  intro j u hu
  have := cell_of_row (X.alloc (rcB r)) X.heap.size j _ _ (0, 0) (heap_alloc_new X _)
  have hadd : (⟨X.heap.size, 0, none⟩ : Addr).add j = ⟨X.heap.size, 0 + j, none⟩ := by unfold Addr.add; split <;> simp_all
  rw [hadd, Nat.zero_add, this, ← hu]
  simp [rcL]
theorem rcs_snoc (l : List Nd) (x : Nd) : rcCells ((l ++ [x]).map (·.2)) = rcCells (l.map (·.2)) ++ rcL x.2 := by simp [rcCells]
/-- what is told, in a row of one's own -/
def Rold (L : List Nd) (w : World) (e : Ending) (W' : World) : Prop :=
  ∃ v, e = .returned v ∧ W'.ownsRow w.heap.size 50 7 v L.length (rcCells (L.map (·.2))) ∧ Below w.heap.size w W'
def RoldI (w : World) (B : Nat) (pre : List Nd) (C : Nat → Prop) (W : World) : Prop :=
  ∃ v, W.heap[B]? = some (.cells #[v] 45 (0, 0)) ∧ C B ∧ W.ownsRow w.heap.size 50 7 v pre.length (rcCells (pre.map (·.2))) ∧ (∀ k, v.ownBlock = some k → C k ∧ k ≠ B) ∧ Below w.heap.size w W
theorem rold_bears (w : World) (B n : Nat) (hn : w.heap.size ≤ n) : Bears n (RoldI w B) := by
  rintro s C X Y ⟨v, h1, h2, h3, h4, h5⟩ hz hs
  exact ⟨v, hs.heap (.inr h2) h1, h2, own_step h3 (fun k o hk ho => hs.heap (.inr (h4 k hk).1) ho), h4, h5.trans (hs.below (by omega) (fun k hk => .inl (by omega)))⟩
def NoR (c : Code) (pre : List Nd) (C : Nat → Prop) (X : World) : Prop := False
theorem nor_bears (D : Nat) (c : Code) : Bears D (NoR c) := fun _ _ _ _ h => h.elim
theorem rold_next {w X X1 w1 : World} {B : Nat} {pre : List Nd} {x : Nd} {C : Nat → Prop} {v v' : Value} (h1 : X.heap[B]? = some (.cells #[v] 45 (0, 0))) (h2 : C B) (h4 : ∀ k, v.ownBlock = some k → C k ∧ k ≠ B) (h5 : Below w.heap.size w X)
    (hb : w.heap.size ≤ B) (hX : X1 = X.alloc (.cells (rcC x.2) 50))
    (ho : w1.ownsRow w.heap.size 50 7 v' (pre.length + 1) (rcCells (pre.map (·.2)) ++ rcL x.2)) (hg : X1.grownBy w1 v.ownBlock) (hw : v'.ownBlock = v.ownBlock ∨ v'.ownBlock = some X1.heap.size)
    (hvb : ∀ k, v.ownBlock = some k → w.heap.size ≤ k) :
    ∃ C', Round C X C' (w1.setCell ⟨B, 0, none⟩ v') ∧ RoldI w B (pre ++ [x]) C' (w1.setCell ⟨B, 0, none⟩ v') := by
  have hz : X1.heap.size = X.heap.size + 1 := by rw [hX]; simp
  have b1 : Below X.heap.size X X1 := by rw [hX]; exact bal (w := X) _
  have hBX := lt_of_block h1
  have nB : v.ownBlock ≠ some B := fun e => (h4 B e).2 rfl
  have hB1 : w1.heap[B]? = some (.cells #[v] 45 (0, 0)) := (hg.block B (by omega) (fun e => nB e.symm)).trans ((b1.block B hBX).trans h1)
  have hzz : (w1.setCell ⟨B, 0, none⟩ v').heap.size = w1.heap.size := by simp
  have s1 : rng.Steps (fun k => ¬ C k) X (w1.setCell ⟨B, 0, none⟩ v') := by
    refine ((rng.Steps.of_below b1 _).trans (B := X1) ?_).trans (rng.Steps.setCell _ _ _ _ (fun e => e h2))
    exact ⟨hg.os, hg.tape, hg.output, hg.size, fun k hk hn => hg.block k hk (fun e => hn (h4 k e.symm).1)⟩
  refine ⟨fun k => C k ∨ (X.heap.size ≤ k ∧ k < w1.heap.size), ⟨s1, fun k hk => by rw [hzz]; exact hk⟩, v', (heap_setCell_same _ B 0 _ _ _ hB1).trans rfl, .inl h2, ?_, ?_, ?_⟩
  · rw [List.length_append, List.length_singleton, rcs_snoc]
    refine own_step ho (fun k o hk hko => (Below.heap_setCell w1 ⟨B, 0, none⟩ v' k ?_).trans hko)
    rintro rfl
    rcases hw with e | e
    · exact nB (e ▸ hk)
    · rw [e] at hk; cases hk; omega
  · intro k hk
    rcases hw with e | e
    · rw [e] at hk; exact ⟨.inl (h4 k hk).1, (h4 k hk).2⟩
    · rw [e] at hk
      cases hk
      have := (own_in ho e).1
      exact ⟨.inr ⟨by omega, by omega⟩, by omega⟩
  · refine ((h5.trans (b1.mono h5.size)).trans ?_).setCell (by simpa using hb) _
    exact ⟨hg.os, hg.tape, hg.output, hg.size, fun k hk => hg.block k (by have := h5.size; omega) (fun e => by have := hvb k e.symm; omega)⟩

theorem seq_nil {g : Nat} {lb : Array Value} {A : Nat → Prop} {w : World} (h : SeqOfR RDn Tryz.prog g lb nE [] A w) : SeqOf Tryz.prog g lb nE [] A w :=
  fun l J Jx C0 W hW hC hJ hJx hY h0 => h l J Jx C0 W hW hC hJ hJx hY (fun pre x post C W1 e => by simp at e) h0
set_option maxHeartbeats 1000000 in
theorem inorder_none (w : World) (A : Nat → Prop) : Calls Tryz.prog 50 #[.pointer none] w (SeqR [] A w) := by
  have b1 := al w (.cells #[.pointer none] 28)
  have y1 := heap_alloc_new w (.cells #[.pointer none] 28)
  have HR : Hid (∀ gf lb W, Calls Tryz.prog 84 #[.func (.func gf) #[] lb] W fun e w' => e = .returned (.func (.func 112) #[] #[.pointer (some ⟨W.heap.size, 0, none⟩)]) ∧ w' = W.alloc (.cells #[.func (.func gf) #[] lb] 116)) := by
    refine Lib.hid fun gf lb W => ?_
    go_enter Tryz.func84, Tryz.ntmps84
    go_wp2_with fail
    go_ret
    exact ⟨rfl, rfl⟩
  generalize hW1 : w.alloc (.cells #[.pointer none] 28) = w1 at *
  have b2 := al w1 (.cells #[.func (.func 99) #[] #[.pointer (some ⟨w.heap.size, 0, none⟩)]] 116)
  have y2 := heap_alloc_new w1 (.cells #[.func (.func 99) #[] #[.pointer (some ⟨w.heap.size, 0, none⟩)]] 116)
  have x2 := (b2.block _ (lt_of_block y1)).trans y1
  have HF := Lib.hid (show SeqR [] A w (.returned (.func (.func 112) #[] #[.pointer (some ⟨w1.heap.size, 0, none⟩)])) _ from ⟨_, rfl, recs1_seq (seq_nil (inorder1_none (cofr x2 0 _ rfl))) (fun x hx => by simp at hx) (fun x hx => by simp at hx) eg_in (cofr y2 0 _ rfl), b1.trans (b2.mono b1.size)⟩)
  clear b1 b2 y1 y2 x2
  go_enter Tryz.func50, Tryz.ntmps50
  go_wp2_with (first
    | (go_at_call 63; (with_reducible refine (inorder_call _ _).mono ?_); rintro e w3 ⟨rfl, rfl⟩; rw [hW1])
    | (go_at_call 84; (with_reducible refine (HR.out _ _ _).mono ?_); rintro e w3 ⟨rfl, rfl⟩))
  go_ret
  exact HF.out
theorem inorder_o {w : World} {p : Option Addr} {L : List Nd} (h : LrO w p L) (ho : Ord L) (A : Nat → Prop) (hA : ∀ x ∈ L, ¬ A x.1) : Calls Tryz.prog 50 #[.pointer p] w (SeqR L A w) := by
  rcases h with ⟨rfl, rfl⟩ | ⟨B, rfl, h⟩
  · exact inorder_none w A
  · exact inorder_any h ho A hA
/-- the loop of all -/
theorem lall_loop : True := trivial
set_option maxRecDepth 100000 in
set_option maxHeartbeats 8000000 in
theorem lall_any {w : World} {p : Option Addr} {N L l : List Nd} (h : BO w p N L) (hlo : Lo N) (ho : Ord L) (hn : L.length ≤ 900000) (order : Bool) (hl : l = if order then L else N) :
    Calls Tryz.prog 13 #[.pointer p, .bool order] w (Rold l w) := by
  have hpm : N.length = L.length := by
    rcases h with ⟨_, h1, h2⟩ | ⟨B, T, s, _, h⟩
    · rw [h1, h2]
    · exact h.perm.length_eq.symm
  have HLN := Lib.hid (show l.length ≤ 900000 by rw [hl]; split <;> omega)
  have hb1 := bal (w := w) (.cells #[.slice none 0 0] 45)
  have hbox := heap_alloc_new w (.cells #[.slice none 0 0] 45)
  have hz1 : (w.alloc (.cells #[.slice none 0 0] 45)).heap.size = w.heap.size + 1 := by simp
  have HA1 := Lib.hid (fun (X : World) (hX : Below w.heap.size w X) (hzX : w.heap.size < X.heap.size) => all_any hX h hlo (fun k => k = w.heap.size) (fun k hk => ⟨by rw [hk]; exact hzX, fun cs e => by have := lt_of_block e; omega⟩) (fun y hy e => by obtain ⟨q1, q2, hn⟩ := h.nd y hy; have := hn.lt; omega))
  have HA2 := Lib.hid (fun (X : World) (hX : Below w.heap.size w X) => inorder_o (h.later hX).lr ho (fun k => k = w.heap.size) (fun y hy e => by
    rcases h with ⟨_, h1, h2⟩ | ⟨B, T, s, _, h⟩
    · rw [h2] at hy; simp at hy
    · have := h.ln.lt hy; omega))
  refine (callsIn_wide (n := 6)).1 ?_
  refine callsIn_of_wp_marks Tryz.func13 rfl trivial ?_ rfl
  simp only [Tryz.ntmps13, List.size_toArray, List.length_cons, List.length_nil, Nat.reduceAdd, Nat.reduceSub, Array.replicate_succ, Array.replicate_zero, List.push_toArray, List.append_toArray, List.nil_append, List.cons_append]
  have HB1 := Lib.hid hb1
  have HBOX := Lib.hid hbox
  have HZ1 := Lib.hid hz1
  clear hb1 hbox h hlo ho hpm hn hz1
  cases order
  · have hl' : l = N := hl
    clear hl
    subst hl'
    gi_wp2
    refine ⟨trivial, ?_⟩
    refine (callsIn_wide.2 (HA1.out _ HB1.out (by have := HZ1.out; omega))).mono ?_
    rintro e w2 ⟨lb, rfl, hseq, hb2⟩
    have HSEQ := Lib.hid hseq
    have HR0 : Hid (RoldI w w.heap.size [] (fun k => k = w.heap.size) w2) := Lib.hid ⟨.slice none 0 0, (hb2.block w.heap.size (by have := HZ1.out; omega)).trans HBOX.out, rfl, World.ownsRow_nil _ _ _ _, (fun k hk => by cases hk), HB1.out.trans (hb2.mono HB1.out.size)⟩
    have hz2 : w.heap.size < w2.heap.size := by have := hb2.size; have := HZ1.out; omega
    clear hseq hb2 HA1 HA2 HBOX HB1 HZ1
    gi_wp2
    refine wpIn_rangeBox (fun (b : Nat) (y : Nd) (t : Array Value) => (t.setIfInBounds 14 (rcV y.2)).setIfInBounds 7 (.pointer (some ⟨b, 0, none⟩))) (gf := 112) (lb := lb) (L := l) (A := fun k => k = w.heap.size) (w0 := w2) (encs := recE) rfl eg_rec HSEQ.out (Below.refl _ _) (fun _ => rfl)
      (RoldI w w.heap.size) NoR (fun k => k = w.heap.size) ?hc0 (rold_bears _ _ _ (by omega)) (nor_bears _) HR0.out (fun b y C X => X.heap[b]? = some (rcB y.2) ∧ w2.heap.size ≤ b ∧ C b ∧ (∃ v0, X.heap[w.heap.size]? = some (.cells #[v0] 45 (0, 0)) ∧ v0.ownBlock ≠ some b)) ?hB ?assign ?body ?done ?stop
    case hc0 => rintro k rfl; exact ⟨.inl rfl, by omega⟩
    case hB =>
      rintro b y _ C X Y ⟨h1, h2, h3, v0, h4, h5⟩ hz hs
      exact ⟨hs.heap (.inr h3) h1, h2, h3, v0, hs.heap (.inl (by omega)) h4, h5⟩
    case assign =>
      rintro l' pre y C X K ⟨v, h1, h2, h3, h4, h5⟩ hp hc hz hK
      have b1 := bal (w := X) (rcB y.2)
      have h1' := (b1.block _ (lt_of_block h1)).trans h1
      have HK := Lib.hid (hK X.heap.size (fun k => C k ∨ k = X.heap.size) _ ⟨Steps.of_below b1 _, fun k hk => by rcases hk with hk | rfl; exact .inl hk; exact .inr ⟨Nat.le_refl _, by simp⟩⟩
        ⟨v, h1', .inl h2, own_later h3 b1, fun k hk => ⟨.inl (h4 k hk).1, (h4 k hk).2⟩, h5.trans (b1.mono h5.size)⟩ ⟨heap_alloc_new X _, hz, .inr rfl, v, h1', fun e => by have := (own_in h3 e).1; omega⟩)
      clear hK h1 h1' h2 h3 h4 h5 hp hc b1
      gi_wp2
      exact HK.out
    case body =>
      rintro l' pre x b C X ⟨v, h1, h2, h3, h4, h5⟩ ⟨hyb, hb, hcb, v0, hv0, hvb0⟩ hp hcc hz
      obtain ⟨i0, hi, hz0, hz1, hz2⟩ := info_split info_brec
      have hlen : pre.length < 1000000 := by
        have := hp.length_le
        have h6 := HLN.out
        rw [List.length_append, List.length_singleton] at this
        omega
      have cB := (cell_of_row X w.heap.size 0 _ _ (0, 0) h1).trans rfl
      have e0 : X.cell? ⟨b, 0, none⟩ = some (.int .i64 x.2.f) := cofr hyb 0 _ rfl
      have e1 : X.cell? ⟨b, 1, none⟩ = some (.int .i64 x.2.t) := cofr hyb 1 _ rfl
      have e2 : X.cell? ⟨b, 2, none⟩ = some (.int .i64 x.2.sent) := cofr hyb 2 _ rfl
      have e3 : X.cell? ⟨b, 3, none⟩ = some (.int .i64 x.2.order) := cofr hyb 3 _ rfl
      have e4 : X.cell? ⟨b, 4, none⟩ = some (.int .i64 x.2.times) := cofr hyb 4 _ rfl
      have e5 : X.cell? ⟨b, 5, none⟩ = some (.int .i64 x.2.out) := cofr hyb 5 _ rfl
      have e6 : X.cell? ⟨b, 6, none⟩ = some (.bool x.2.lost) := cofr hyb 6 _ rfl
      have hsrc := brec_src X x.2
      have own2 := own_later h3 (bal (w := X) (rcB x.2))
      have d1 := kcell (bal (w := X) (rcB x.2)) cB
      have HN := Lib.hid (fun (w1 : World) (v' : Value) => rold_next (w := w) (X := X) (w1 := w1) (pre := pre) (x := x) (v' := v') h1 h2 h4 h5 (Nat.le_refl _) rfl)
      have hvb := fun k hk => (own_in h3 (k := k) hk).2
      have HV := Lib.hid hvb
      have HO := Lib.hid own2
      have HSRC := Lib.hid hsrc
      have H1 := Lib.hid h1
      have H4 := Lib.hid h4
      clear h1 h2 h3 h4 h5 hp hcc hvb own2 hsrc HSEQ HR0 hv0 hvb0 hyb hcb hb
      simp only [List.setIfInBounds_toArray, List.set_cons_zero, List.set_cons_succ]
      gi_wp2_with (gi_at_builtin; refine wpListIn_append_sz _ rfl (.tmp 15) (.tmp 17) 45 45 rfl w.heap.size 50 i0 zV 7 56 Tryz.underlying45 hi hz0 hz1 (by decide) hz2 rfl v pre.length (rcCells (pre.map (·.2))) rfl HO.out _ rfl 1 (rcL x.2) HSRC.out (by unfold maxLen; omega) (by omega) (by simp; omega) ?_)
      intro a' cap' w1 ho hg hw
      obtain ⟨C', hr, hg'⟩ := HN.out w1 _ ho hg (by simpa using hw) HV.out
      have HF := Lib.hid (fun (aa : Act) => show rPost (RoldI w w.heap.size) NoR (pre ++ [x]) C X .normal aa _ from ⟨C', hr, hg'⟩)
      have hB1 : w1.heap[w.heap.size]? = some (.cells #[v] 45 (0, 0)) := (hg.block w.heap.size (by simp; have := lt_of_block H1.out; omega) (fun e => (H4.out _ e.symm).2 rfl)).trans ((bal (w := X) (rcB x.2)).block _ (lt_of_block H1.out) |>.trans H1.out)
      have g0 : w1.cell? ⟨w.heap.size, 0, none⟩ = some v := (cell_of_row w1 w.heap.size 0 _ _ (0, 0) hB1).trans rfl
      have g1 : w1.frozen? ⟨w.heap.size, 0, none⟩ = false := by simp [World.frozen?, hB1]
      clear hB1 ho hg hw HO HSRC HN HV H1 H4 cB d1 e0 e1 hr hg'
      gi_wp2
      exact HF.out _
    case done =>
      rintro D C X hD hCD ⟨v, h1, h2, h3, h4, h5⟩ hK
      have cB := (cell_of_row X w.heap.size 0 _ _ (0, 0) h1).trans rfl
      have nD : ∀ k, v.ownBlock = some k → k ≠ D := by rintro k hk rfl; exact hCD (h4 _ hk).1
      have hf : (X.putObj D (.deferred none)).ownsRow w.heap.size 50 7 v l.length (rcCells (l.map (·.2))) := own_step h3 (fun k o hk ho => (World.putObj_heap_other (nD k hk)).trans ho)
      have hb' : Below w.heap.size w (X.putObj D (.deferred none)) := h5.trans ((rng.Steps.putObj (fun k => k < w.heap.size) X D _ (by omega)).below (n := w.heap.size) h5.size (fun k hk => hk))
      have HF := Lib.hid (show Rold l w (.returned v) (X.putObj D (.deferred none)) from ⟨v, rfl, hf, hb'⟩)
      clear h1 h2 h3 h4 h5 nD hf hb' HSEQ HR0
      gi_wp2
      refine ⟨by simp, .inl ⟨_, _, rfl, run_takeDeferred hK, ?_⟩⟩
      exact ⟨v, by simp [results, Tryz.results13, go_sem], HF.out⟩
    case stop =>
      rintro D c pre C X _ _ h _
      exact h.elim


  · have hl' : l = L := hl
    clear hl
    subst hl'
    gi_wp2
    refine ⟨trivial, ?_⟩
    refine (callsIn_wide.2 (HA1.out _ HB1.out (by have := HZ1.out; omega))).mono ?_
    rintro e w1 ⟨lb1, rfl, _, hb1⟩
    have HB2 := Lib.hid (HB1.out.trans (hb1.mono HB1.out.size))
    have hbx1 := (hb1.block w.heap.size (by have := HZ1.out; omega)).trans HBOX.out
    have hz1' : w.heap.size < w1.heap.size := by have := hb1.size; have := HZ1.out; omega
    have HBOX1 := Lib.hid hbx1
    clear hb1 hbx1
    gi_wp2
    refine ⟨trivial, ?_⟩
    refine (callsIn_wide.2 (HA2.out _ HB2.out)).mono ?_
    rintro e w2 ⟨lb, rfl, hseq, hb2⟩
    have HSEQ := Lib.hid hseq
    have HR0 : Hid (RoldI w w.heap.size [] (fun k => k = w.heap.size) w2) := Lib.hid ⟨.slice none 0 0, (hb2.block w.heap.size hz1').trans HBOX1.out, rfl, World.ownsRow_nil _ _ _ _, (fun k hk => by cases hk), HB2.out.trans (hb2.mono HB2.out.size)⟩
    have hz2 : w.heap.size < w2.heap.size := by have := hb2.size; omega
    clear hseq hb2 HA1 HA2 HBOX HB1 HZ1 HB2 HBOX1 hz1'
    gi_wp2
    refine wpIn_rangeBox (fun (b : Nat) (y : Nd) (t : Array Value) => (t.setIfInBounds 14 (rcV y.2)).setIfInBounds 7 (.pointer (some ⟨b, 0, none⟩))) (gf := 112) (lb := lb) (L := l) (A := fun k => k = w.heap.size) (w0 := w2) (encs := recE) rfl eg_rec HSEQ.out (Below.refl _ _) (fun _ => rfl)
      (RoldI w w.heap.size) NoR (fun k => k = w.heap.size) ?hc0 (rold_bears _ _ _ (by omega)) (nor_bears _) HR0.out (fun b y C X => X.heap[b]? = some (rcB y.2) ∧ w2.heap.size ≤ b ∧ C b ∧ (∃ v0, X.heap[w.heap.size]? = some (.cells #[v0] 45 (0, 0)) ∧ v0.ownBlock ≠ some b)) ?hB ?assign ?body ?done ?stop
    case hc0 => rintro k rfl; exact ⟨.inl rfl, by omega⟩
    case hB =>
      rintro b y _ C X Y ⟨h1, h2, h3, v0, h4, h5⟩ hz hs
      exact ⟨hs.heap (.inr h3) h1, h2, h3, v0, hs.heap (.inl (by omega)) h4, h5⟩
    case assign =>
      rintro l' pre y C X K ⟨v, h1, h2, h3, h4, h5⟩ hp hc hz hK
      have b1 := bal (w := X) (rcB y.2)
      have h1' := (b1.block _ (lt_of_block h1)).trans h1
      have HK := Lib.hid (hK X.heap.size (fun k => C k ∨ k = X.heap.size) _ ⟨Steps.of_below b1 _, fun k hk => by rcases hk with hk | rfl; exact .inl hk; exact .inr ⟨Nat.le_refl _, by simp⟩⟩
        ⟨v, h1', .inl h2, own_later h3 b1, fun k hk => ⟨.inl (h4 k hk).1, (h4 k hk).2⟩, h5.trans (b1.mono h5.size)⟩ ⟨heap_alloc_new X _, hz, .inr rfl, v, h1', fun e => by have := (own_in h3 e).1; omega⟩)
      clear hK h1 h1' h2 h3 h4 h5 hp hc b1
      gi_wp2
      exact HK.out
    case body =>
      rintro l' pre x b C X ⟨v, h1, h2, h3, h4, h5⟩ ⟨hyb, hb, hcb, v0, hv0, hvb0⟩ hp hcc hz
      obtain ⟨i0, hi, hz0, hz1, hz2⟩ := info_split info_brec
      have hlen : pre.length < 1000000 := by
        have := hp.length_le
        have h6 := HLN.out
        rw [List.length_append, List.length_singleton] at this
        omega
      have cB := (cell_of_row X w.heap.size 0 _ _ (0, 0) h1).trans rfl
      have e0 : X.cell? ⟨b, 0, none⟩ = some (.int .i64 x.2.f) := cofr hyb 0 _ rfl
      have e1 : X.cell? ⟨b, 1, none⟩ = some (.int .i64 x.2.t) := cofr hyb 1 _ rfl
      have e2 : X.cell? ⟨b, 2, none⟩ = some (.int .i64 x.2.sent) := cofr hyb 2 _ rfl
      have e3 : X.cell? ⟨b, 3, none⟩ = some (.int .i64 x.2.order) := cofr hyb 3 _ rfl
      have e4 : X.cell? ⟨b, 4, none⟩ = some (.int .i64 x.2.times) := cofr hyb 4 _ rfl
      have e5 : X.cell? ⟨b, 5, none⟩ = some (.int .i64 x.2.out) := cofr hyb 5 _ rfl
      have e6 : X.cell? ⟨b, 6, none⟩ = some (.bool x.2.lost) := cofr hyb 6 _ rfl
      have hsrc := brec_src X x.2
      have own2 := own_later h3 (bal (w := X) (rcB x.2))
      have d1 := kcell (bal (w := X) (rcB x.2)) cB
      have HN := Lib.hid (fun (w1 : World) (v' : Value) => rold_next (w := w) (X := X) (w1 := w1) (pre := pre) (x := x) (v' := v') h1 h2 h4 h5 (Nat.le_refl _) rfl)
      have hvb := fun k hk => (own_in h3 (k := k) hk).2
      have HV := Lib.hid hvb
      have HO := Lib.hid own2
      have HSRC := Lib.hid hsrc
      have H1 := Lib.hid h1
      have H4 := Lib.hid h4
      clear h1 h2 h3 h4 h5 hp hcc hvb own2 hsrc HSEQ HR0 hv0 hvb0 hyb hcb hb
      simp only [List.setIfInBounds_toArray, List.set_cons_zero, List.set_cons_succ]
      gi_wp2_with (gi_at_builtin; refine wpListIn_append_sz _ rfl (.tmp 15) (.tmp 17) 45 45 rfl w.heap.size 50 i0 zV 7 56 Tryz.underlying45 hi hz0 hz1 (by decide) hz2 rfl v pre.length (rcCells (pre.map (·.2))) rfl HO.out _ rfl 1 (rcL x.2) HSRC.out (by unfold maxLen; omega) (by omega) (by simp; omega) ?_)
      intro a' cap' w1 ho hg hw
      obtain ⟨C', hr, hg'⟩ := HN.out w1 _ ho hg (by simpa using hw) HV.out
      have HF := Lib.hid (fun (aa : Act) => show rPost (RoldI w w.heap.size) NoR (pre ++ [x]) C X .normal aa _ from ⟨C', hr, hg'⟩)
      have hB1 : w1.heap[w.heap.size]? = some (.cells #[v] 45 (0, 0)) := (hg.block w.heap.size (by simp; have := lt_of_block H1.out; omega) (fun e => (H4.out _ e.symm).2 rfl)).trans ((bal (w := X) (rcB x.2)).block _ (lt_of_block H1.out) |>.trans H1.out)
      have g0 : w1.cell? ⟨w.heap.size, 0, none⟩ = some v := (cell_of_row w1 w.heap.size 0 _ _ (0, 0) hB1).trans rfl
      have g1 : w1.frozen? ⟨w.heap.size, 0, none⟩ = false := by simp [World.frozen?, hB1]
      clear hB1 ho hg hw HO HSRC HN HV H1 H4 cB d1 e0 e1 hr hg'
      gi_wp2
      exact HF.out _
    case done =>
      rintro D C X hD hCD ⟨v, h1, h2, h3, h4, h5⟩ hK
      have cB := (cell_of_row X w.heap.size 0 _ _ (0, 0) h1).trans rfl
      have nD : ∀ k, v.ownBlock = some k → k ≠ D := by rintro k hk rfl; exact hCD (h4 _ hk).1
      have hf : (X.putObj D (.deferred none)).ownsRow w.heap.size 50 7 v l.length (rcCells (l.map (·.2))) := own_step h3 (fun k o hk ho => (World.putObj_heap_other (nD k hk)).trans ho)
      have hb' : Below w.heap.size w (X.putObj D (.deferred none)) := h5.trans ((rng.Steps.putObj (fun k => k < w.heap.size) X D _ (by omega)).below (n := w.heap.size) h5.size (fun k hk => hk))
      have HF := Lib.hid (show Rold l w (.returned v) (X.putObj D (.deferred none)) from ⟨v, rfl, hf, hb'⟩)
      clear h1 h2 h3 h4 h5 nD hf hb' HSEQ HR0
      gi_wp2
      refine ⟨by simp, .inl ⟨_, _, rfl, run_takeDeferred hK, ?_⟩⟩
      exact ⟨v, by simp [results, Tryz.results13, go_sem], HF.out⟩
    case stop =>
      rintro D c pre C X _ _ h _
      exact h.elim


end Go.Proofs.YtohpaoleomcimaaGreat.bk
/-!   Package board: High.
-/
namespace Go.Proofs.YtohpaoleomcimaaGreat.bd
open Go.RowKit Go.Shelf aid mem rng sp rn bv
attribute [local go_sem] Oper.semAt_some
set_option linter.unusedVariables false
set_option linter.unusedSimpArgs false

/-- a zero box was made behind a world -/
structure ZB (W0 W : World) : Prop where
  z : W.heap[W0.heap.size]? = some zS
  below : Below W0.heap.size W0 W
theorem zb_new (W0 : World) {W : World} (hb : Below (W0.alloc zS).heap.size (W0.alloc zS) W) : ZB W0 W := by
  have h := heap_alloc_new W0 zS
  have b := bal (w := W0) zS
  exact ⟨(hb.block _ (lt_of_block h)).trans h, b.trans (hb.mono b.size)⟩
theorem zb_newd (W0 : World) {W : World} (hb : Below (W0.alloc zS).drew.heap.size (W0.alloc zS).drew W) : ZB W0 W := zb_new W0 ((Below.refl (W0.alloc zS).heap.size (W0.alloc zS)).drew.trans hb)
structure HH (w : World) (x tb : Nat) (s : Bs) (V : World) : Prop where
  bd : BdAt V x tb s
  below : Below w.heap.size w V
theorem HH.later {w V V' : World} {x tb : Nat} {s : Bs} (h : HH w x tb s V) (hb : Below V.heap.size V V') : HH w x tb s V' := ⟨h.bd.later hb, h.below.trans (hb.mono h.below.size)⟩
/-- the box is written: what lay ahead of it lies as it lay -/
theorem HH.put {w W0 W : World} {x tb : Nat} {s : Bs} (F : HH w x tb s W0) (G : ZB W0 W) (u : Sp) :
    HH w x tb s ((W.setCell ⟨W0.heap.size, 0, none⟩ (.int .i64 u.1)).setCell ⟨W0.heap.size, 1, none⟩ (.int .i64 u.2)) ∧ ((W.setCell ⟨W0.heap.size, 0, none⟩ (.int .i64 u.1)).setCell ⟨W0.heap.size, 1, none⟩ (.int .i64 u.2)).cell? ⟨W0.heap.size, 1, none⟩ = some (.int .i64 u.2) := by
  obtain ⟨r1, r2⟩ := bx_put (w := W0) (v := (0, 0)) (u := u) G.z (Nat.le_refl _) G.below
  exact ⟨F.later r2, (bx_c r1).2.1⟩
theorem high_oK (s : Bs) : highN s = if (oK (s.l.getLast?.map ky)).2.2 = true then (oK (s.l.getLast?.map ky)).2.1.2 else s.una := by
  unfold highN
  cases s.l.getLast? <;> rfl
end Go.Proofs.YtohpaoleomcimaaGreat.bd
/-!   Package board: All.
-/
namespace Go.Proofs.YtohpaoleomcimaaGreat.bd
open Go.RowKit Go.Shelf aid mem rng sp rn bv
attribute [local go_sem] Oper.semAt_some
set_option linter.unusedVariables false
set_option linter.unusedSimpArgs false

theorem bears_mono {β : Type} {n m : Nat} {J : β → (Nat → Prop) → World → Prop} (h : Bears n J) (hnm : n ≤ m) : Bears m J := fun s C X Y hj hz hs =>
  h s C X Y hj (Nat.le_trans hnm hz) (hs.mono (fun k _ hk => hk.imp (fun q => Nat.lt_of_lt_of_le q hnm) id))
/-- an iterator is run by somebody else's yield, whose blocks are known -/
theorem seq_pass {g : Nat} {lb : Array Value} {L : List Sp} {A : Nat → Prop} {w V : World} (h : SeqOf Tryz.prog g lb spE L A V)
    {l : Nat} {J Jx : List Sp → (Nat → Prop) → World → Prop} {C0 : Nat → Prop} {W : World} (hWV : Below W.heap.size W V) (hC : ∀ k, C0 k → k < W.heap.size) (hA : ∀ k, C0 k → A k)
    (hJ : Bears W.heap.size J) (hJx : Bears W.heap.size Jx)
    (hY : ∀ pre x C W1, J pre C W1 → W.heap.size ≤ W1.heap.size → pre ++ [x] <+: L → Yd Tryz.prog l (spE x) W1 fun e W' =>
      ∃ C', Round C W1 C' W' ∧ ((e = .returned (.bool true) ∧ J (pre ++ [x]) C' W') ∨ (e = .returned (.bool false) ∧ Jx (pre ++ [x]) C' W')))
    (h0 : J [] C0 W) : Calls Tryz.prog g (#[.func (.yield l) #[] #[]] ++ lb) V fun e W' => (∃ v, e = .returned v) ∧ ∃ C', It C0 W C' W' ∧ (J L C' W' ∨ ∃ pre, Jx pre C' W') := by
  have hz := hWV.size
  have hst := Steps.of_below hWV (fun k => k < W.heap.size ∨ C0 k)
  refine (h l (fun pre C X => J pre C X ∧ It C0 W C X) (fun pre C X => Jx pre C X ∧ It C0 W C X) C0 V (Below.refl _ _) (fun k hk => ⟨.inl (hA k hk), Nat.lt_of_lt_of_le (hC k hk) hz⟩) ?_ ?_ ?_ ⟨hJ _ _ _ _ h0 (Nat.le_refl _) hst, (It.refl hC).own hst⟩).mono ?_
  · rintro pre C X Y ⟨h1, h2⟩ hzz hs
    have hs' := hs.mono (K' := fun k => k < W.heap.size ∨ C k) (fun k _ hk => hk.imp (fun q => Nat.lt_of_lt_of_le q hz) id)
    exact ⟨hJ _ _ _ _ h1 (Nat.le_trans hz hzz) hs', h2.own hs'⟩
  · rintro pre C X Y ⟨h1, h2⟩ hzz hs
    have hs' := hs.mono (K' := fun k => k < W.heap.size ∨ C k) (fun k _ hk => hk.imp (fun q => Nat.lt_of_lt_of_le q hz) id)
    exact ⟨hJx _ _ _ _ h1 (Nat.le_trans hz hzz) hs', h2.own hs'⟩
  · rintro pre x C W1 ⟨h1, h2⟩ hzz hp
    refine (hY pre x C W1 h1 (Nat.le_trans hz hzz) hp).mono ?_
    rintro e W' ⟨C', hr, ⟨rfl, hj⟩ | ⟨rfl, hj⟩⟩
    · exact ⟨C', hr, .inl ⟨rfl, hj, h2.round hr⟩⟩
    · exact ⟨C', hr, .inr ⟨rfl, hj, h2.round hr⟩⟩
  · rintro e W' ⟨hv, C', ⟨h1, h2⟩ | ⟨pre, h1, h2⟩⟩
    · exact ⟨hv, C', h2, .inl h1⟩
    · exact ⟨hv, C', h2, .inr ⟨pre, h1⟩⟩
end Go.Proofs.YtohpaoleomcimaaGreat.bd
/-!   Package board: Holes.
-/
namespace Go.Proofs.YtohpaoleomcimaaGreat.bd
open Go.RowKit Go.Shelf aid mem rng sp rn bv
attribute [local go_sem] Oper.semAt_some
set_option linter.unusedVariables false
set_option linter.unusedSimpArgs false

/-- where the last one ended -/
def lastE (pre : List Sp) (u : Int) : Int := (pre.getLast?.map (fun x => x.2)).getD u
theorem lastE_snoc (pre : List Sp) (y : Sp) (u : Int) : lastE (pre ++ [y]) u = y.2 := by unfold lastE; simp
theorem holes_snoc : ∀ (pre : List Sp) (y : Sp) (u : Int), holesC (pre ++ [y]) u = holesC pre u ++ ne (lastE pre u, y.1) := by
  intro pre
  induction pre with
  | nil => intro y u; simp [holesC, lastE]
  | cons x pre ih =>
    intro y u
    rw [List.cons_append, holesC, ih, holesC, List.append_assoc]
    congr 2
    unfold lastE
    cases pre with
    | nil => rfl
    | cons z r => rw [List.getLast?_cons_cons]; cases hq : (z :: r).getLast? with
      | none => simp at hq
      | some v => rfl
theorem holes_append : ∀ (pre r : List Sp) (u : Int), ∃ t, holesC (pre ++ r) u = holesC pre u ++ t := by
  intro pre
  induction pre with
  | nil => intro r u; exact ⟨_, rfl⟩
  | cons x pre ih =>
    intro r u
    obtain ⟨t, e⟩ := ih r x.2
    exact ⟨t, by rw [List.cons_append, holesC, e, holesC, List.append_assoc]⟩
theorem holes_prefix {L pre : List Sp} {y : Sp} {u : Int} (hp : pre ++ [y] <+: L) : holesC pre u ++ ne (lastE pre u, y.1) <+: holesC L u := by
  obtain ⟨r, rfl⟩ := hp
  obtain ⟨t, e⟩ := holes_append (pre ++ [y]) r u
  rw [e, holes_snoc]
  exact List.prefix_append _ _
/-- between two rounds -/
structure Gh (W : World) (C0 : Nat → Prop) (F l : Nat) (u : Int) (J : List Sp → (Nat → Prop) → World → Prop) (pre : List Sp) (Co C : Nat → Prop) (X : World) : Prop where
  gv : Gv W C0 l (fun pre => holesC pre u) J pre Co C X
  cF : C F
  nF : ¬ Co F
  fr : X.heap[F]? = some (.cells #[.int .i64 (lastE pre u)] 3 (0, 0))
def GhI (W : World) (C0 : Nat → Prop) (F l : Nat) (u : Int) (J : List Sp → (Nat → Prop) → World → Prop) (pre : List Sp) (C : Nat → Prop) (X : World) : Prop := ∃ Co, Gh W C0 F l u J pre Co C X
def GhB (W : World) (C0 : Nat → Prop) (F l : Nat) (u : Int) (J : List Sp → (Nat → Prop) → World → Prop) (D : Nat) (pre : List Sp) (b : Nat) (y : Sp) (C : Nat → Prop) (X : World) : Prop :=
  ∃ Co, Gh W C0 F l u J pre Co C X ∧ SpAt X b y ∧ C b ∧ ¬ Co b ∧ D ≤ b
theorem gh_own {W : World} {C0 : Nat → Prop} {F l D : Nat} {u : Int} {J : List Sp → (Nat → Prop) → World → Prop} {pre : List Sp} {Co C : Nat → Prop} {X Y : World} (hJ : Bears W.heap.size J) (hD : W.heap.size < D) (h : Gh W C0 F l u J pre Co C X) (hs : rng.Steps (fun k => k < D ∨ C k) X Y) : Gh W C0 F l u J pre Co C Y :=
  ⟨gv_own hJ hD h.gv hs, h.cF, h.nF, hs.heap (.inr h.cF) h.fr⟩
theorem gh_next {W : World} {C0 : Nat → Prop} {F l : Nat} {u : Int} {J : List Sp → (Nat → Prop) → World → Prop} {pre : List Sp} {Co C C2 : Nat → Prop} {X Z V : World} {y : Sp} {t : List Sp} (hJ : Bears W.heap.size J) (h : Gh W C0 F l u J pre Co C X) (hW : W.heap.size < X.heap.size) (hF : W.heap.size < F)
    (hb : Below X.heap.size X Z) (hit : It C0 W Co Z) (hr : Round Co Z C2 V) (hj : J t C2 V) (ht : holesC (pre ++ [y]) u = t) :
    ∃ C', Round C X C' (V.setCell ⟨F, 0, none⟩ (.int .i64 y.2)) ∧ GhI W C0 F l u J (pre ++ [y]) C' (V.setCell ⟨F, 0, none⟩ (.int .i64 y.2)) := by
  have hFX := lt_of_block h.fr
  have hXZ := hb.size
  have nF2 : ¬ C2 F := fun e => by
    rcases hr.2 _ e with a | a
    · exact h.nF a
    · omega
  have n2 : ¬ C2 W.heap.size := fun e => by
    rcases hr.2 _ e with a | a
    · exact h.gv.nX a
    · omega
  have hfV := hr.1.heap (k := F) h.nF ((hb.block _ hFX).trans h.fr)
  have hyV := hr.1.cell (p := ⟨W.heap.size, 0, none⟩) h.gv.nX (kcell hb h.gv.yd)
  have hitV := hit.round hr
  have s1 : rng.Steps (fun k => k < W.heap.size ∨ C2 k) V (V.setCell ⟨F, 0, none⟩ (.int .i64 y.2)) := rng.Steps.setCell _ V ⟨F, 0, none⟩ _ (by rintro (e | e); simp only at e; omega; exact nF2 e)
  refine ⟨fun k => C k ∨ C2 k, ((Round.of_below hb C).trans (C' := C) (C'' := fun k => C k ∨ C2 k) (D := V) ⟨hr.1.mono (fun k _ hk e => hk (h.gv.sub k e)), fun k hk => ?_⟩).trans ⟨rng.Steps.setCell _ V ⟨F, 0, none⟩ _ (fun e => e (.inl h.cF)), fun k hk => .inl hk⟩, C2,
    ⟨⟨fun k hk => .inr hk, by show J (holesC (pre ++ [y]) u) _ _; rw [ht]; exact hJ _ _ _ _ hj hitV.kept.size s1, hitV.own s1, n2, (rng.Steps.setCell (fun k => k = W.heap.size) V ⟨F, 0, none⟩ _ (by simp only; omega)).cell rfl hyV⟩, .inl h.cF, nF2, ?_⟩⟩
  · rcases hk with hk | hk
    · exact .inl hk
    · rcases hr.2 k hk with a | a
      · exact .inl (h.gv.sub k a)
      · exact .inr a
  · rw [lastE_snoc]
    exact (heap_setCell_same V F 0 _ _ _ hfV).trans rfl
end Go.Proofs.YtohpaoleomcimaaGreat.bd
/-!   Package board: New, Sent, Ack, Sack.
-/
namespace Go.Proofs.YtohpaoleomcimaaGreat.bd
open Go.RowKit Go.Shelf aid mem rng sp rn bv
attribute [local go_sem ↓] Go.wp_at_zero Go.wp_at_succ
attribute [local go_sem] Oper.semAt_some
set_option linter.unusedVariables false
set_option linter.unusedSimpArgs false

/-- a tree lies as it lay when a block of another kind is written -/
theorem TL.other {w w' : World} {b x : Nat} {l : List Sp} {cs : Array Value} (h : TL w b l) (hx : w.heap[x]? = some (.cells cs 109 (0, 0))) (hk : Kept [x] w w') : TL w' b l := by
  obtain ⟨t, ⟨q, h1, h2⟩, h3⟩ := h
  have key : ∀ (k : Nat) (cs' : Array Value) (ty : TypeId), ty ≠ 109 → w.heap[k]? = some (.cells cs' ty (0, 0)) → w'.heap[k]? = w.heap[k]? := fun k cs' ty hty hk' => by
    refine hk.block k (lt_of_block hk') (fun e => ?_)
    simp only [List.mem_singleton] at e
    subst e
    rw [hx] at hk'
    injection hk' with hk'
    injection hk' with _ hk' _
    exact hty hk'.symm
  exact ⟨t, ⟨q, (key b _ _ (by decide) h1).trans h1, h2.keepT (fun x cs hx => key x cs _ (by decide) hx)⟩, h3⟩
theorem kset2 (w : World) (b o : Nat) (u : Value) : Kept [b] w (w.setCell ⟨b, o, none⟩ u) := (Kept.refl [b] w).setCell (.inl (by simp)) u
/-- a board is made -/
def RetNew (u : Int) (w : World) (e : Ending) (w' : World) : Prop :=
  ∃ x tb, e = .returned (.tuple #[.pointer (some ⟨x, 0, none⟩), .int .i64 0]) ∧ BdAt w' x tb (newS u) ∧ Below w.heap.size w w' ∧ w.heap.size ≤ x ∧ w.heap.size ≤ tb
set_option maxHeartbeats 2000000 in
theorem spans_any (w : World) : Calls Tryz.prog 67 #[] w fun e w' => e = .returned (.agg #[.pointer (some ⟨w.heap.size + 1, 0, none⟩)]) ∧ TL w' (w.heap.size + 1) [] ∧ Below w.heap.size w w' := by
  have b1 := bal (w := w) (.cells #[.pointer none] 107)
  have x1 := heap_alloc_new w (.cells #[.pointer none] 107)
  have hz1 : (w.alloc (.cells #[.pointer none] 107)).heap.size = w.heap.size + 1 := by simp
  have HN := Lib.hid (bv.new_any (w.alloc (.cells #[.pointer none] 107)))
  rw [hz1] at HN
  have HB := Lib.hid b1
  have HX := Lib.hid x1
  clear b1 x1 hz1
  go_enter Tryz.func67, Tryz.ntmps67
  go_wp2_with (go_at_call 102; (with_reducible refine HN.out.mono ?_); rintro e w2 ⟨rfl, hT, h2⟩; have x2 := (h2.block _ (by have := lt_of_block HX.out; omega)).trans HX.out; have HT := Lib.hid hT; have c0 := cofr x2 0 _ rfl; have f0 := fofr x2 0; have HH2 := Lib.hid h2; have HX2 := Lib.hid x2; clear hT h2 x2)
  have hs := (heap_setCell_same w2 w.heap.size 0 _ _ (.pointer (some ⟨w.heap.size + 1, 0, none⟩)) HX2.out).trans rfl
  have d0 := cofr hs 0 _ rfl
  have HF : Hid (TL (w2.setCell ⟨w.heap.size, 0, none⟩ (.pointer (some ⟨w.heap.size + 1, 0, none⟩))) (w.heap.size + 1) [] ∧ Below w.heap.size w (w2.setCell ⟨w.heap.size, 0, none⟩ (.pointer (some ⟨w.heap.size + 1, 0, none⟩)))) := Lib.hid ⟨by
    obtain ⟨q, h1, h2⟩ := HT.out
    exact ⟨.nil, ⟨q, (Below.heap_setCell w2 ⟨w.heap.size, 0, none⟩ _ _ (by simp)).trans h1, h2⟩, rfl, Rn.nil⟩, (HB.out.trans (HH2.out.mono (Nat.le_succ _))).setCell (by simp) _⟩
  exact bodyPost_ret (v := .agg #[.pointer (some ⟨w.heap.size + 1, 0, none⟩)]) (by simp [results, Tryz.results67, go_sem, d0]) rfl ⟨rfl, HF.out.1, HF.out.2⟩
set_option maxHeartbeats 2000000 in
theorem bnew_bad {u : Int} (hb : ¬ (0 ≤ u ∧ u ≤ 4611686018427387904)) (w : World) : Calls Tryz.prog 21 #[.int .i64 u] w fun e w' => e = .returned (.tuple #[.pointer none, .int .i64 3]) ∧ w = w' := by
  by_cases h1 : u < 0
  · go_enter Tryz.func21, Tryz.ntmps21
    go_wp2
    exact bodyPost_ret (v := .tuple #[.pointer none, .int .i64 3]) (by simp [results, Tryz.results21, go_sem]) rfl ⟨rfl, rfl⟩
  · have h2 : 4611686018427387904 < u := by omega
    clear hb
    go_enter Tryz.func21, Tryz.ntmps21
    go_wp2
    exact bodyPost_ret (v := .tuple #[.pointer none, .int .i64 3]) (by simp [results, Tryz.results21, go_sem]) rfl ⟨rfl, rfl⟩
set_option maxHeartbeats 2000000 in
theorem bnew_ok {u : Int} (h1 : 0 ≤ u) (h2 : u ≤ 4611686018427387904) (w : World) : Calls Tryz.prog 21 #[.int .i64 u] w (RetNew u w) := by
  have HN := Lib.hid (spans_any w)
  have g1 : ¬ u < 0 := by omega
  have g2 : ¬ 4611686018427387904 < u := by omega
  go_enter Tryz.func21, Tryz.ntmps21
  go_wp2_with (go_at_call 67; (with_reducible refine HN.out.mono ?_); rintro e w2 ⟨rfl, hT, hb2⟩; have HT := Lib.hid hT; have HB2 := Lib.hid hb2; clear hT hb2)
  have b3 := bal (w := w2) (bdC (newS u) (w.heap.size + 1))
  exact bodyPost_ret (v := .tuple #[.pointer (some ⟨w2.heap.size, 0, none⟩), .int .i64 0]) (by simp [results, Tryz.results21, go_sem]) rfl ⟨w2.heap.size, w.heap.size + 1, rfl, ⟨heap_alloc_new w2 _, HT.out.later b3, bok_new h1 h2⟩, HB2.out.trans (b3.mono HB2.out.size), HB2.out.size, Nat.le_succ _⟩
set_option maxHeartbeats 2000000 in
theorem bsent_any {w : World} {x tb : Nat} {s : Bs} (h : BdAt w x tb s) (t : Int) (ht : -9223372036854775808 ≤ t ∧ t ≤ 9223372036854775807) : Calls Tryz.prog 34 #[.pointer (some ⟨x, 0, none⟩), .int .i64 t] w fun e w' => e = .returned (.int .i64 (sentN s t).1) ∧ BdAt w' x tb (sentN s t).2 ∧ Kept [x, tb] w w' := by
  have hok := sent_ok h.ok t
  obtain ⟨c0, c1, c2⟩ := h.cells
  have f1 := fofr h.cel 1
  have hw : IntKind.i64.wrap (t - s.una) = t - s.una ∨ t < s.nxt ∨ 4611686018427387904 < t := by
    by_cases a : t < s.nxt
    · exact .inr (.inl a)
    · exact .inl (IntWalk.i64_in _ (by have := h.ok.lo; have := h.ok.le; omega))
  have HD := Lib.hid h
  have HP : Hid (BdAt (w.setCell ⟨x, 1, none⟩ (.int .i64 t)) x tb ⟨s.una, t, s.l⟩ ∨ ¬ BOk ⟨s.una, t, s.l⟩) := Lib.hid (by
    rcases Classical.em (BOk ⟨s.una, t, s.l⟩) with e | e
    · exact .inl ⟨(heap_setCell_same w x 1 _ _ _ h.cel).trans rfl, h.tl.other h.cel (kset2 w x 1 _), e⟩
    · exact .inr e)
  by_cases a : t < s.nxt
  · have e : sentN s t = (3, s) := by unfold sentN; rw [if_pos (.inl a)]
    rw [e]
    clear h hok
    go_enter Tryz.func34, Tryz.ntmps34
    go_wp2
    go_ret
    exact ⟨rfl, HD.out, Kept.refl _ _⟩
  · by_cases b : 4611686018427387904 < t
    · have e : sentN s t = (3, s) := by unfold sentN; rw [if_pos (.inr (.inl b))]
      rw [e]
      clear h hok
      go_enter Tryz.func34, Tryz.ntmps34
      go_wp2
      go_ret
      exact ⟨rfl, HD.out, Kept.refl _ _⟩
    · have hw' : IntKind.i64.wrap (t - s.una) = t - s.una := by rcases hw with q | q | q; exact q; exact absurd q a; exact absurd q b
      by_cases c : 65536 < t - s.una
      · have e : sentN s t = (3, s) := by unfold sentN; rw [if_pos (.inr (.inr c))]
        rw [e]
        clear h hok hw
        go_enter Tryz.func34, Tryz.ntmps34
        go_wp2
        go_ret
        exact ⟨rfl, HD.out, Kept.refl _ _⟩
      · have e : sentN s t = (0, ⟨s.una, t, s.l⟩) := by unfold sentN; rw [if_neg (by omega)]
        rw [e] at hok ⊢
        have HP' := Lib.hid (HP.out.resolve_right (fun q => q hok))
        clear h hok hw HP
        go_enter Tryz.func34, Tryz.ntmps34
        go_wp2
        go_ret
        exact ⟨rfl, HP'.out, (kset2 w x 1 _).mono (by simp)⟩
set_option maxHeartbeats 2000000 in
theorem back_any' {w : World} {x tb : Nat} {s : Bs} (h : BdAt w x tb s) (t : Int) : Calls Tryz.prog 17 #[.pointer (some ⟨x, 0, none⟩), .int .i64 t] w fun e w' => e = .returned (.tuple #[.int .i64 (ackN s t).1, .int .i64 (ackN s t).2.1]) ∧ BdAt w' x tb (ackN s t).2.2 ∧ Kept [x, tb] w w' := by
  have hok := ack_ok h.ok t
  obtain ⟨c0, c1, c2⟩ := h.cells
  have HD := Lib.hid h
  by_cases a : t < s.una
  · have e : ackN s t = (0, 11, s) := by unfold ackN; rw [if_pos a]
    rw [e]
    clear h hok
    go_enter Tryz.func17, Tryz.ntmps17
    go_wp2
    exact bodyPost_ret (v := .tuple #[.int .i64 0, .int .i64 11]) (by simp [results, Tryz.results17, go_sem]) rfl ⟨rfl, HD.out, Kept.refl _ _⟩
  · by_cases b : s.nxt < t
    · have e : ackN s t = (0, 12, s) := by unfold ackN; rw [if_neg a, if_pos b]
      rw [e]
      clear h hok
      go_enter Tryz.func17, Tryz.ntmps17
      go_wp2
      exact bodyPost_ret (v := .tuple #[.int .i64 0, .int .i64 12]) (by simp [results, Tryz.results17, go_sem]) rfl ⟨rfl, HD.out, Kept.refl _ _⟩
    · have e : ackN s t = (missN s.l (s.una, t), 0, ⟨t, s.nxt, refWo s.l (s.una, t)⟩) := by unfold ackN; rw [if_neg a, if_neg b]; rfl
      rw [e] at hok ⊢
      rw [← h.ok.drop (by omega) (by omega)] at hok ⊢
      have HM := Lib.hid (miss_any h.o (s.una, t))
      have hlen := h.ok.len
      have HDR := Lib.hid (fun W (hT : TL W tb s.l) => drop_any t hT hlen)
      have HOK := Lib.hid hok
      generalize missN s.l (s.una, t) = n at *
      generalize dropL s.l t = L at *
      clear h hok
      go_enter Tryz.func17, Tryz.ntmps17
      go_wp2_with (first
        | (go_at_call 60; (with_reducible refine HM.out.mono ?_); rintro e w2 ⟨rfl, h2⟩; have hD2 := HD.out.later h2; have cc := hD2.cel; have d0 := cofr cc 0 _ rfl; have d1 := cofr cc 1 _ rfl; have d2 := cofr cc 2 _ rfl; have f0 := fofr cc 0; have hcel := (heap_setCell_same w2 x 0 _ _ (.int .i64 t) cc).trans rfl; have g2 := cofr hcel 2 _ rfl; have HTT := Lib.hid (hD2.tl.other cc (kset2 w2 x 0 (.int .i64 t))); have HCEL := Lib.hid hcel; have HK3 := Lib.hid (((Kept.of_below h2 (Nat.le_refl _) [x, tb])).trans (kset2 w2 x 0 (.int .i64 t)) (by simp)); have hxt := HD.out.ne; clear h2 hD2 cc hcel)
        | (go_at_call 62; go_must (with_reducible refine (HDR.out _ HTT.out).mono ?_); rintro e w4 ⟨⟨q, rfl⟩, hT4, hk4⟩; have hc4 := hk4.heap (by simpa using hxt) HCEL.out; have HK4 := Lib.hid (HK3.out.trans hk4 (by simp)); have HF := Lib.hid (show BdAt w4 x tb ⟨t, s.nxt, L⟩ from ⟨hc4, hT4, HOK.out⟩); clear hT4 hk4 hc4))
      exact bodyPost_ret (v := .tuple #[.int .i64 n, .int .i64 0]) (by simp [results, Tryz.results17, go_sem]) rfl ⟨rfl, HF.out, HK4.out⟩
end Go.Proofs.YtohpaoleomcimaaGreat.bd
/-!   Package board: Sack.
-/
namespace Go.Proofs.YtohpaoleomcimaaGreat.bd
open Go.RowKit Go.Shelf aid mem rng sp rn bv
attribute [local go_sem ↓] Go.wp_at_zero Go.wp_at_succ
attribute [local go_sem] Oper.semAt_some
set_option linter.unusedVariables false
set_option linter.unusedSimpArgs false

theorem sack_zero {s : Bs} {y : Sp} (h : BOk s) (h1 : ¬ lenI y = 0) (h2 : ¬ s.nxt < y.2) (hm : missN s.l (fromP y s.una) = 0) : sackN s y = (0, 0, s) := by
  have hw := wi_same h.rn (x := fromP y s.una) hm
  have := h.len
  unfold sackN
  rw [if_neg h1, if_neg h2, hw, if_neg (by omega), Int.sub_self]
theorem sack_full {s : Bs} {y : Sp} (h1 : ¬ lenI y = 0) (h2 : ¬ s.nxt < y.2) (hl : 4096 < (refWi s.l (fromP y s.una)).length) : sackN s y = (0, 4, s) := by
  unfold sackN
  rw [if_neg h1, if_neg h2, if_pos hl]
theorem sack_in {s : Bs} {y : Sp} (h : BOk s) (h1 : ¬ lenI y = 0) (h2 : ¬ s.nxt < y.2) (hl : ¬ 4096 < (refWi s.l (fromP y s.una)).length) : sackN s y = (missN s.l (fromP y s.una), 0, ⟨s.una, s.nxt, refWi s.l (fromP y s.una)⟩) := by
  unfold sackN
  rw [if_neg h1, if_neg h2, if_neg hl, wi_miss h.rn]
set_option maxRecDepth 100000 in
set_option maxHeartbeats 4000000 in
theorem bsack_any {w : World} {x tb : Nat} {s : Bs} (h : BdAt w x tb s) (y : Sp) : Calls Tryz.prog 16 #[.pointer (some ⟨x, 0, none⟩), spV y] w fun e w' => e = .returned (.tuple #[.int .i64 (sackN s y).1, .int .i64 (sackN s y).2.1]) ∧ BdAt w' x tb (sackN s y).2.2 ∧ Kept [x, tb] w w' := by
  have b1 := bal (w := w) (.cells #[.int .i64 y.1, .int .i64 y.2] 24)
  have s1 := sp_new w y
  have hD1 := h.later b1
  have hlx := h.lt
  have hxt := h.ne
  have HLN := Lib.hid (fun X => len_any y X)
  have q0 := s1.c0; have q1 := s1.c1
  have HK1 := Lib.hid (Kept.of_below b1 (Nat.le_refl _) [x, tb])
  by_cases g1 : lenI y = 0
  · have e : sackN s y = (0, 3, s) := by unfold sackN; rw [if_pos g1]
    rw [e]
    have HD := Lib.hid hD1
    clear h b1 s1 hD1
    go_enter Tryz.func16, Tryz.ntmps16
    go_wp2_with (go_at_call 58; (with_reducible refine (HLN.out _).mono ?_); rintro e w2 ⟨rfl, h2⟩; have HB2 := Lib.hid h2; clear h2)
    exact bodyPost_ret (v := .tuple #[.int .i64 0, .int .i64 3]) (by simp [results, Tryz.results16, go_sem]) rfl ⟨rfl, HD.out.later HB2.out, HK1.out.trans (Kept.of_below HB2.out (Nat.le_refl _) [x, tb]) (fun k hk => .inl hk)⟩
  · have HS1 := Lib.hid s1
    have HD1 := Lib.hid hD1
    by_cases g2 : s.nxt < y.2
    · have e : sackN s y = (0, 12, s) := by unfold sackN; rw [if_neg g1, if_pos g2]
      rw [e]
      clear h b1 s1 hD1
      go_enter Tryz.func16, Tryz.ntmps16
      go_wp2_with (go_at_call 58; (with_reducible refine (HLN.out _).mono ?_); rintro e w2 ⟨rfl, h2⟩; have HB2 := Lib.hid h2; have p1 := (HS1.out.later h2).c1; have p2 := (HD1.out.later h2).cells.2.1; clear h2 q0 q1)
      go_quiet (fail)
      go_wp2
      have HB3 := Lib.hid (HB2.out.trans ((sp.bdN w2 nq).mono HB2.out.size))
      exact bodyPost_ret (v := .tuple #[.int .i64 0, .int .i64 12]) (by simp [results, Tryz.results16, go_sem]) rfl ⟨rfl, HD1.out.later HB3.out, HK1.out.trans (Kept.of_below HB3.out (Nat.le_refl _) [x, tb]) (fun k hk => .inl hk)⟩
    · have HFR := Lib.hid (fun X => sp.from_any y s.una X)
      have HZ := Lib.hid (sack_zero (y := y) h.ok g1 g2)
      have HF := Lib.hid (sack_full (s := s) g1 g2)
      have HI := Lib.hid (sack_in (y := y) h.ok g1 g2)
      have HOK := Lib.hid (sack_ok h.ok y)
      have hln := h.ok.len
      have hrk : missN s.l (fromP y s.una) ≠ 0 → ROk (fromP y s.una) := fun hm => by
        by_cases c : lenI (fromP y s.una) = 0
        · exfalso
          apply hm
          have := within_lt h.ok.rn (fromP y s.una)
          unfold missN
          omega
        · exact len_pos_ok c
      generalize fromP y s.una = z at *
      have HM := Lib.hid (fun X (hX : BdAt X x tb s) => miss_any hX.o z)
      have HRK := Lib.hid hrk
      have HAD := Lib.hid (fun X (hX : TL X tb s.l) (hz : ROk z) => add_any hX hln hz)
      have HB1 := Lib.hid b1
      have H0 := Lib.hid h
      clear h b1 s1 hD1 hrk
      go_enter Tryz.func16, Tryz.ntmps16
      go_wp2_with (go_at_call 58; (with_reducible refine (HLN.out _).mono ?_); rintro e w2 ⟨rfl, h2⟩; have HD2 := Lib.hid (HD1.out.later h2); have HS2 := Lib.hid (HS1.out.later h2); have HW2 := Lib.hid (HB1.out.trans (h2.mono HB1.out.size)); have p0 := HS2.out.c0; have p1 := HS2.out.c1; have p2 := HD2.out.cells.2.1; clear h2 q0 q1)
      go_quiet (fail)
      go_wp2
      have HB3 := Lib.hid (sp.bdN w2 nq)
      have HW3 := Lib.hid (HW2.out.trans (HB3.out.mono HW2.out.size))
      have HD3 := Lib.hid (HD2.out.later HB3.out)
      have HS3 := Lib.hid (HS2.out.later HB3.out)
      generalize w2.drewN nq = w3 at *
      clear p0 p1 p2
      have p0 : w3.drew.cell? ⟨w.heap.size, 0, none⟩ = some (.int .i64 y.1) := HS3.out.c0
      have p1 : w3.drew.cell? ⟨w.heap.size, 1, none⟩ = some (.int .i64 y.2) := HS3.out.c1
      have p2 : w3.drew.cell? ⟨x, 0, none⟩ = some (.int .i64 s.una) := HD3.out.cells.1
      refine wp_region_noPanic ?_
      refine wp_region_held_drew (S := (fun w' => w'.cell? ⟨x, 0, none⟩ = some (.int .i64 s.una))) (by kernel_rfl) ?_ (fun hHeld => ?_)
      · ((try dsimp only); exact p2)
      refine wpAnyH_take (i := 1) (oi := _) (v := ?_) rfl (by kernel_rfl) (by kernel_rfl) (by kernel_rfl) (fun _ _ _ h => h) (Or.inl ⟨by rfl, ?_⟩) (by assumption) ?_
      rotate_left
      · (first | (intro v hSw; (try dsimp only at hSw); go_simp; done) | (intro v hSw; (try dsimp only at hSw); go_simp; with_reducible rfl))
      refine wpAnyH_take (i := 2) (oi := _) (v := ?_) rfl (by kernel_rfl) (by kernel_rfl) (by kernel_rfl) (fun _ _ _ h => h) (Or.inl ⟨by rfl, ?_⟩) (by assumption) ?_
      rotate_left
      · (first | (intro v hSw; (try dsimp only at hSw); go_simp; done) | (intro v hSw; (try dsimp only at hSw); go_simp; with_reducible rfl))
      refine wpAnyH_take (i := 3) (oi := _) (v := ?_) rfl (by kernel_rfl) (by kernel_rfl) (by kernel_rfl) (fun _ _ _ h => h) (Or.inl ⟨by rfl, ?_⟩) (by assumption) ?_
      rotate_left
      · (first | (intro v hSw; (try dsimp only at hSw); go_simp; done) | (intro v hSw; (try dsimp only at hSw); go_simp; with_reducible rfl))
      refine wpAnyH_take (i := 4) (oi := _) (v := ?_) rfl (by kernel_rfl) (by kernel_rfl) (by kernel_rfl) (fun _ _ _ h => h) (Or.inl ⟨by rfl, ?_⟩) (by assumption) ?_
      rotate_left
      · (first | (intro v hSw; (try dsimp only at hSw); go_simp; done) | (intro v hSw; (try dsimp only at hSw); go_simp; with_reducible rfl))
      refine wpAnyH_ready (rs := [0]) (by kernel_rfl) (by simp) ?_
      refine AllReadyH.cons (o := _) rfl (fun K hK => ?_) AllReadyH.nil
      go_simp
      refine hK.out _ _ ?_ (fun hHeld => ?_)
      · ((try dsimp only); exact p2)
      clear hK K
      refine wpAnyH_ready (rs := [5]) (by kernel_rfl) (by simp) ?_
      refine AllReadyH.cons (o := _) rfl (fun K hK => ?_) AllReadyH.nil
      go_simp
      refine (HFR.out _).mono ?_
      rintro e w4 ⟨rfl, h4⟩
      have h34 : Below w3.heap.size w3 w4 := undrew h4
      have hW4 := HW3.out.trans (h34.mono HW3.out.size)
      have s4 := HS3.out.later h34
      have f0 := s4.f0; have f1 := s4.f1; have g0 := s4.c0; have g1 := s4.c1
      have d4 := H0.out.later hW4
      have e4 := d4.cells.1
      have s5 := s4.put z.1 z.2
      have hW5 : Below w.heap.size w ((w4.setCell ⟨w.heap.size, 0, none⟩ (.int .i64 z.1)).setCell ⟨w.heap.size, 1, none⟩ (.int .i64 z.2)) := (hW4.setCell (p := ⟨w.heap.size, 0, none⟩) (by simp) _).setCell (p := ⟨w.heap.size, 1, none⟩) (by simp) _
      have d5 := H0.out.later hW5
      have e5 := d5.cells.1
      refine hK.out _ _ ?_ (fun hHeld => ?_)
      · ((try dsimp only); exact e4)
      clear hK K
      refine wpAnyH_ready (rs := [6]) (by kernel_rfl) (by simp) ?_
      refine AllReadyH.cons (o := _) rfl (fun K hK => ?_) AllReadyH.nil
      go_simp
      refine hK.out _ _ ?_ (fun hHeld => ?_)
      · ((try dsimp only); exact e5)
      clear hK K
      refine wpAnyH_done (by kernel_rfl) ?_ _
      refine NoPanic.normal ?_
      generalize (w4.setCell ⟨w.heap.size, 0, none⟩ (.int .i64 z.1)).setCell ⟨w.heap.size, 1, none⟩ (.int .i64 z.2) = w5 at *
      have HS5 := Lib.hid s5
      have HD5 := Lib.hid d5
      have HW5 := Lib.hid hW5
      have r0 := HS5.out.c0; have r1 := HS5.out.c1
      have HM5 := Lib.hid (HM.out w5 d5)
      clear hW4 s4 f0 f1 g0 g1 d4 e4 s5 hW5 d5 e5 p0 p1 p2 h34 h4 hHeld
      have hmw : missN s.l z = missN s.l z := rfl
      go_wp2_with (go_at_call 60; (with_reducible refine HM5.out.mono ?_); rintro e w6 ⟨rfl, h6⟩; have HS6 := Lib.hid (HS5.out.later h6); have HD6 := Lib.hid (HD5.out.later h6); have HW6 := Lib.hid (HW5.out.trans (h6.mono HW5.out.size)); clear h6 r0 r1; by_cases hm : missN s.l z = 0)
      · rw [HZ.out hm]
        exact bodyPost_ret (v := .tuple #[.int .i64 0, .int .i64 0]) (by simp [results, Tryz.results16, go_sem]) rfl ⟨rfl, HD6.out, Kept.of_below HW6.out (Nat.le_refl _) [x, tb]⟩
      · have hrk := HRK.out hm
        have HD7 := Lib.hid (HD6.out.later (Below.refl _ _).drew)
        have HS7 := Lib.hid (HS6.out.later (Below.refl w6.heap.size w6).drew)
        have HW7 := Lib.hid (HW6.out.trans (((Below.refl w6.heap.size w6).drew).mono HW6.out.size))
        have HA7 := Lib.hid (HAD.out w6.drew HD7.out.tl hrk)
        have k0 : w6.drew.cell? ⟨x, 2, none⟩ = some (.pointer (some ⟨tb, 0, none⟩)) ∧ w6.drew.cell? ⟨w.heap.size, 0, none⟩ = some (.int .i64 z.1) ∧ w6.drew.cell? ⟨w.heap.size, 1, none⟩ = some (.int .i64 z.2) := ⟨HD7.out.cells.2.2, HS7.out.c0, HS7.out.c1⟩
        have hxb : x ∉ [tb] := by simpa using hxt
        have hwb : w.heap.size ∉ [tb] := by have := hlx.2; simp; omega
        by_cases hl : 4096 < (refWi s.l z).length
        · rw [if_pos hl, if_pos hl] at HA7
          go_region_held3 (fun w' => w'.cell? ⟨x, 2, none⟩ = some (.pointer (some ⟨tb, 0, none⟩)) ∧ w'.cell? ⟨w.heap.size, 0, none⟩ = some (.int .i64 z.1) ∧ w'.cell? ⟨w.heap.size, 1, none⟩ = some (.int .i64 z.2)) (with_reducible first | exact k0 | exact k1 | go_keep) (
            (go_at_call 61; go_must (with_reducible refine HA7.out.mono ?_); rintro e w8 ⟨rfl, hT8, hk8⟩; have HT8 := Lib.hid hT8; have HK8 := Lib.hid hk8; have k1 := And.intro (hk8.cell (p := ⟨x, 2, none⟩) hxb k0.1) (And.intro (hk8.cell (p := ⟨w.heap.size, 0, none⟩) hwb k0.2.1) (hk8.cell (p := ⟨w.heap.size, 1, none⟩) hwb k0.2.2)); clear hT8 hk8))
          all_goals
            have hF : BdAt w8 x tb s := ⟨HK8.out.heap hxb HD7.out.cel, HT8.out, HD7.out.ok⟩
            have HFF := Lib.hid hF
            have HKK := Lib.hid ((Kept.of_below HW7.out (Nat.le_refl _) [x, tb]).trans HK8.out (by simp))
            clear k0 k1 hF
            go_wp2
            rw [HF.out hl]
            exact bodyPost_ret (v := .tuple #[.int .i64 0, .int .i64 4]) (by simp [results, Tryz.results16, go_sem]) rfl ⟨rfl, HFF.out, HKK.out⟩
        · have HO := HOK.out
          rw [HI.out hl] at HO
          rw [if_neg hl, if_neg hl] at HA7
          have HOO := Lib.hid HO
          clear HO
          go_region_held3 (fun w' => w'.cell? ⟨x, 2, none⟩ = some (.pointer (some ⟨tb, 0, none⟩)) ∧ w'.cell? ⟨w.heap.size, 0, none⟩ = some (.int .i64 z.1) ∧ w'.cell? ⟨w.heap.size, 1, none⟩ = some (.int .i64 z.2)) (with_reducible first | exact k0 | exact k1 | go_keep) (
            (go_at_call 61; go_must (with_reducible refine HA7.out.mono ?_); rintro e w8 ⟨rfl, hT8, hk8⟩; have HT8 := Lib.hid hT8; have HK8 := Lib.hid hk8; have k1 := And.intro (hk8.cell (p := ⟨x, 2, none⟩) hxb k0.1) (And.intro (hk8.cell (p := ⟨w.heap.size, 0, none⟩) hwb k0.2.1) (hk8.cell (p := ⟨w.heap.size, 1, none⟩) hwb k0.2.2)); clear hT8 hk8))
          all_goals
            have hF : BdAt w8 x tb ⟨s.una, s.nxt, refWi s.l z⟩ := ⟨HK8.out.heap hxb HD7.out.cel, HT8.out, HOO.out⟩
            have HFF := Lib.hid hF
            have HKK := Lib.hid ((Kept.of_below HW7.out (Nat.le_refl _) [x, tb]).trans HK8.out (by simp))
            clear k0 k1 hF
            go_wp2
            rw [HI.out hl]
            exact bodyPost_ret (v := .tuple #[.int .i64 (missN s.l z), .int .i64 0]) (by simp [results, Tryz.results16, go_sem]) rfl ⟨rfl, HFF.out, HKK.out⟩
end Go.Proofs.YtohpaoleomcimaaGreat.bd
/-!   Layer 14: a book that is none; what must come of fixed calls.
-/
namespace Go.Proofs.YtohpaoleomcimaaGreat.bk
open Go.RowKit Go.Shelf aid mem rng sp rn bd
attribute [local go_sem ↓] Go.wp_at_zero Go.wp_at_succ
attribute [local go_sem] Oper.semAt_some
set_option linter.unusedVariables false
set_option linter.unusedSimpArgs false

theorem bsend_none (y : Sp) (now : Int) (w : World) : Calls Tryz.prog 28 #[.pointer none, spV y, .int .i64 now] w fun e w' => e = .returned (.int .i64 1) ∧ Below w.heap.size w w' := by
  have b1 := Lib.hid (bal (w := w) (.cells #[.int .i64 y.1, .int .i64 y.2] 24))
  go_enter Tryz.func28, Tryz.ntmps28
  go_wp2_with fail
  go_ret
  exact ⟨rfl, b1.out⟩
theorem blose_none (k : Int) (w : World) : Calls Tryz.prog 29 #[.pointer none, .int .i64 k] w fun e w' => e = .returned (.int .i64 1) ∧ w = w' := by
  go_enter Tryz.func29, Tryz.ntmps29
  go_wp2_with fail
  go_ret
  exact ⟨rfl, rfl⟩
theorem bclone_none' (w : World) : Calls Tryz.prog 11 #[.pointer none] w fun e w' => e = .returned (.pointer none) ∧ w = w' := by
  go_enter Tryz.func11, Tryz.ntmps11
  go_wp2_with fail
  go_ret
  exact ⟨rfl, rfl⟩
set_option maxHeartbeats 1000000 in
theorem bagain_none (k now : Int) (w : World) : Calls Tryz.prog 22 #[.pointer none, .int .i64 k, .int .i64 now] w fun e w' => e = .returned (.tuple #[zV, .int .i64 1]) ∧ Below w.heap.size w w' := by
  go_enter Tryz.func22, Tryz.ntmps22
  go_wp2_with fail
  exact bodyPost_ret (v := .tuple #[zV, .int .i64 1]) (by simp [results, Tryz.results22, go_sem]) rfl ⟨rfl, al _ _⟩
theorem eq_rcg : Tryz.prog.eqGuardType Tryz.prog.depth 50 = false := by kernel_rfl
theorem eq_rcz (w : World) : (Op.equalIn 10000 50 zV zV).run Tryz.prog w = .ok true w := by kernel_rfl
/-- a board lies apart from a book -/
theorem BdAt.book {w w' : World} {x tb B T : Nat} {s : Bs} {h' : Hd} {N L : List Nd} (h : BdAt w x tb s) (k : Bk w B T h' N L) (hk : Kept (fp B T L) w w') : BdAt w' x tb s := by
  have key : ∀ (b : Nat) (cs : Array Value) (ty : TypeId), ty ≠ 96 → ty ≠ 133 → ty ≠ 102 → w.heap[b]? = some (.cells cs ty (0, 0)) → w'.heap[b]? = w.heap[b]? := fun b cs ty h1 h2 h3 hb => by
    refine hk.block b (lt_of_block hb) (fun e => ?_)
    unfold fp at e
    rcases List.mem_cons.1 e with rfl | e
    · have := k.ln.bk
      unfold BlAt at this
      rw [hb] at this
      injection this with this
      injection this with _ this _
      exact h1 this
    · rcases List.mem_cons.1 e with rfl | e
      · obtain ⟨t, ⟨q, g1, _⟩, _⟩ := k.tr
        rw [hb] at g1
        injection g1 with g1
        injection g1 with _ g1 _
        exact h2 g1
      · obtain ⟨y, hy, rfl⟩ := List.mem_map.1 e
        obtain ⟨p, q, hn⟩ := seg_mem k.ln.sg hy
        unfold NdAt at hn
        rw [hb] at hn
        injection hn with hn
        injection hn with _ hn _
        exact h3 hn
  obtain ⟨t, ⟨q, h1, h2⟩, h3⟩ := h.tl
  exact ⟨(key x _ _ (by decide) (by decide) (by decide) h.cel).trans h.cel, ⟨t, ⟨q, (key tb _ _ (by decide) (by decide) (by decide) h1).trans h1, h2.keepT (fun z cs hz => key z cs _ (by decide) (by decide) (by decide) hz)⟩, h3⟩, h.ok⟩
/-- a book and a board of one's own -/
structure KS (w : World) (B T x tb : Nat) (h : Hd) (s : Bs) (N L : List Nd) (W : World) : Prop where
  bk : Bk W B T h N L
  bd : BdAt W x tb s
  below : Below w.heap.size w W
  own : ∀ k ∈ fp B T L, w.heap.size ≤ k
theorem KS.later {w W W' : World} {B T x tb : Nat} {h : Hd} {s : Bs} {N L : List Nd} (k : KS w B T x tb h s N L W) (hb : Below W.heap.size W W') : KS w B T x tb h s N L W' := ⟨k.bk.later hb, k.bd.later hb, k.below.trans (hb.mono k.below.size), k.own⟩
theorem KS.put {w W W' : World} {B T x tb : Nat} {h h' : Hd} {s : Bs} {N L N' L' : List Nd} (k : KS w B T x tb h s N L W) (hb : Bk W' B T h' N' L') (hk : Kept (fp B T L) W W') (ho : ∀ y ∈ L', y.1 ∈ L.map (·.1) ∨ W.heap.size ≤ y.1) : KS w B T x tb h' s N' L' W' := by
  refine ⟨hb, BdAt.book k.bd k.bk hk, k.below.trans (hk.below k.own k.below.size), fun j hj => ?_⟩
  unfold fp at hj
  rcases List.mem_cons.1 hj with rfl | hj
  · exact k.own _ (by unfold fp; simp)
  · rcases List.mem_cons.1 hj with rfl | hj
    · exact k.own _ (by unfold fp; simp)
    · obtain ⟨y, hy, rfl⟩ := List.mem_map.1 hj
      rcases ho y hy with e | e
      · exact k.own _ (by unfold fp; exact List.mem_cons_of_mem _ (List.mem_cons_of_mem _ e))
      · have := k.below.size; omega
abbrev q1 : Rc := ⟨0, 10, 5, 1, 1, 1, false⟩
abbrev q1l : Rc := ⟨0, 10, 5, 1, 1, 0, true⟩
abbrev q2 : Rc := ⟨10, 20, 6, 2, 1, 1, false⟩
abbrev q3 : Rc := ⟨0, 10, 9, 3, 2, 1, false⟩
set_option maxRecDepth 100000 in
set_option maxHeartbeats 8000000 in
theorem known_any (w : World) : Calls Tryz.prog 7 #[] w fun e w' => e = .returned (.bool true) ∧ Below w.heap.size w w' := by
  have HN := Lib.hid (fun W => new_any (una := 0) (by omega) W)
  have HNB := Lib.hid (fun W => bnew_ok (u := 0) (by decide) (by decide) W)
  have HS1 := Lib.hid (fun W B T (h : Bk W B T ⟨0, 0, 0⟩ [] []) => show Calls Tryz.prog 28 #[.pointer (some ⟨B, 0, none⟩), spV (0, 10), .int .i64 5] W fun e w' => ∃ n, e = .returned (.int .i64 0) ∧ Bk w' B T ⟨10, 1, 5⟩ [(n, q1)] [(n, q1)] ∧ Kept (fp B T []) W w' ∧ W.heap.size ≤ n from send_good h (0, 10) 5 (by decide) (by simp) (by decide))
  have HS2 := Lib.hid (fun W B T n (h : Bk W B T ⟨10, 1, 5⟩ [(n, q1)] [(n, q1)]) => show Calls Tryz.prog 28 #[.pointer (some ⟨B, 0, none⟩), spV (10, 20), .int .i64 6] W fun e w' => ∃ m, e = .returned (.int .i64 0) ∧ Bk w' B T ⟨20, 2, 6⟩ [(n, q1), (m, q2)] [(n, q1), (m, q2)] ∧ Kept (fp B T [(n, q1)]) W w' ∧ W.heap.size ≤ m from send_good h (10, 20) 6 (by decide) (by simp) (by decide))
  have HL := Lib.hid (fun W B T n m (h : Bk W B T ⟨20, 2, 6⟩ [(n, q1), (m, q2)] [(n, q1), (m, q2)]) => show Calls Tryz.prog 29 #[.pointer (some ⟨B, 0, none⟩), .int .i64 0] W fun e w' => e = .returned (.int .i64 0) ∧ Bk w' B T ⟨20, 2, 6⟩ [(n, q1l), (m, q2)] [(n, q1l), (m, q2)] ∧ Kept (fp B T [(n, q1), (m, q2)]) W w' from blose_yes (N1 := []) (P := []) h)
  have HA := Lib.hid (fun W B T n m (h : Bk W B T ⟨20, 2, 6⟩ [(n, q1l), (m, q2)] [(n, q1l), (m, q2)]) => show Calls Tryz.prog 22 #[.pointer (some ⟨B, 0, none⟩), .int .i64 0, .int .i64 9] W fun e w' => e = .returned (.tuple #[rcV q3, .int .i64 0]) ∧ Bk w' B T ⟨20, 3, 9⟩ [(n, q3), (m, q2)] [(m, q2), (n, q3)] ∧ Kept (fp B T [(n, q1l), (m, q2)]) W w' from again_yes (N1 := []) (P := []) (N2 := [(m, q2)]) (Q := [(m, q2)]) h 9 (by decide) (by decide) (by decide) (by decide))
  have HP := Lib.hid (fun W B T n m x tb (h : Bk W B T ⟨20, 3, 9⟩ [(n, q3), (m, q2)] [(m, q2), (n, q3)]) (hx : BdAt W x tb (newS 0)) => show Calls Tryz.prog 27 #[.pointer (some ⟨B, 0, none⟩), .pointer (some ⟨x, 0, none⟩)] W (RetI 20 W) from by
    have := pipe_any h.o (fun y hy => by simp at hy; rcases hy with rfl | rfl; exact (by decide : (0 : Int) ≤ 0); exact (by decide : (0 : Int) ≤ 10)) (fun y hy => by simp at hy; rcases hy with rfl | rfl <;> exact (by decide : (0 : Int) ≤ 1 ∧ (1 : Int) ≤ 4611686018427387904)) hx.o
    have e : pipeF (newS 0) ([(n, q3), (m, q2)].map (·.2)) 0 = 20 := by show pipeF (newS 0) [q3, q2] 0 = 20; decide
    rw [e] at this
    exact this)
  have HLE := Lib.hid (fun W B T n m (h : Bk W B T ⟨20, 3, 9⟩ [(n, q3), (m, q2)] [(m, q2), (n, q3)]) => show Calls Tryz.prog 14 #[.pointer (some ⟨B, 0, none⟩)] W fun e w' => e = .returned (.int .i64 2) ∧ W = w' from len_any h.o)
  go_enter Tryz.func7, Tryz.ntmps7
  go_upto_region 5 with (first
    | (go_at_call 26; (with_reducible refine (HN.out _).mono ?_); rintro e w1 ⟨B, T, rfl, hb1, h1, g1, g2⟩)
    | (go_at_call 21; (with_reducible refine (HNB.out _).mono ?_); rintro e w2 ⟨x, tb, rfl, hd2, h2, g3, g4⟩; have K : KS w B T x tb ⟨0, 0, 0⟩ (newS 0) [] [] w2 := ⟨hb1.later h2, hd2, h1.trans (h2.mono h1.size), fun k hk => by unfold fp at hk; simp at hk; rcases hk with rfl | rfl <;> assumption⟩; clear hb1 h1 g1 g2 hd2 h2 g3 g4)
    | (go_at_call 28; first
      | ((with_reducible refine (HS1.out _ _ _ K.bk).mono ?_); rintro e w3 ⟨n, rfl, hb, hk, hn⟩; have K2 := K.put hb hk (fun y hy => by simp at hy; subst hy; exact .inr hn); clear K hb hk hn)
      | ((with_reducible refine (HS2.out _ _ _ _ K2.bk).mono ?_); rintro e w4 ⟨m, rfl, hb, hk, hn⟩; have K3 := K2.put hb hk (fun y hy => by simp at hy; rcases hy with rfl | rfl; exact .inl (by simp); exact .inr hn); clear K2 hb hk hn))
    | (go_at_call 29; (with_reducible refine (HL.out _ _ _ _ _ K3.bk).mono ?_); rintro e w5 ⟨rfl, hb, hk⟩; have K4 := K3.put hb hk (fun y hy => by simp at hy; rcases hy with rfl | rfl <;> exact .inl (by simp)); clear K3 hb hk))
  go_upto_region 6 with (go_at_call 22; (with_reducible refine (HA.out _ _ _ _ _ K4.bk).mono ?_); rintro e w6 ⟨rfl, hb, hk⟩; have K5 := (K4.put hb hk (fun y hy => by simp at hy; rcases hy with rfl | rfl <;> exact .inl (by simp))).later (bal (rcB q3)); have hq := heap_alloc_new w6 (rcB q3); clear K4 hb hk)
  generalize w6.alloc (rcB q3) = V at *
  generalize w6.heap.size = R at *
  have e3 := cofr hq 3 _ rfl; have e4 := cofr hq 4 _ rfl; have e5 := cofr hq 5 _ rfl
  clear hq
  go_wp2_with (first
    | (go_at_call 27; (with_reducible refine (HP.out _ _ _ _ _ _ _ K5.bk K5.bd).mono ?_); rintro e w7 ⟨rfl, h7⟩; have K6 := K5.later h7; clear K5 h7)
    | (go_at_call 14; (with_reducible refine (HLE.out _ _ _ _ _ K6.bk).mono ?_); rintro e w8 ⟨rfl, rfl⟩))
  go_ret
  exact ⟨rfl, K6.below⟩
end Go.Proofs.YtohpaoleomcimaaGreat.bk
/-!   Layer 14's law BookNone.
-/
namespace Go.Proofs.YtohpaoleomcimaaGreat.bk
open Go.RowKit Go.Shelf aid mem rng sp rn bd
attribute [local go_sem ↓] Go.wp_at_zero Go.wp_at_succ
attribute [local go_sem] Oper.semAt_some
set_option linter.unusedVariables false
set_option linter.unusedSimpArgs false

theorem rold_len {l : List Nd} {w : World} {fn : Nat} {args : Array Value} (h : Calls Tryz.prog fn args w (Rold l w)) : Calls Tryz.prog fn args w fun e w' => ∃ a cap, e = .returned (.slice a l.length cap) ∧ Below w.heap.size w w' :=
  h.mono fun e w' ⟨v, he, ho, hb⟩ => by
    rcases ho.2 with ⟨rfl, h0⟩ | ⟨g, cap, cur, rfl, _⟩
    · exact ⟨none, 0, by rw [he, h0], hb⟩
    · exact ⟨_, cap, he, hb⟩
/-- what stays -/
structure ZS (w : World) (y : Sp) (x tb R : Nat) (W : World) : Prop where
  sp : SpAt W w.heap.size y
  bd : BdAt W x tb (newS 0)
  rb : W.heap[R]? = some (rcB zRc)
  below : Below w.heap.size w W
theorem ZS.later {w W W' : World} {y : Sp} {x tb R : Nat} (h : ZS w y x tb R W) (hb : Below W.heap.size W W') : ZS w y x tb R W' := ⟨h.sp.later hb, h.bd.later hb, (hb.block _ (lt_of_block h.rb)).trans h.rb, h.below.trans (hb.mono h.below.size)⟩
theorem ZS.two {w W W' : World} {y : Sp} {x tb R : Nat} (h : ZS w y x tb R W) (hb : Below W.heap.size W W') (o : Obj) : ZS w y x tb R (W'.alloc o) := (h.later hb).later (bal o)
set_option maxRecDepth 100000 in
set_option maxHeartbeats 16000000 in
theorem walk_BookNone (w : World) (y : Sp) (now : Int) (hnow : -9223372036854775808 ≤ now ∧ now ≤ 9223372036854775807) :
    Calls Tryz.prog 6 #[spV y, .int .i64 now] w fun e w' => e = .returned (.bool true) ∧ Below w.heap.size w w' := by
  have HNB := Lib.hid (fun W => bnew_ok (u := 0) (by decide) (by decide) W)
  have HN := Lib.hid (fun W => new_any (una := 0) (by omega) W)
  have HF := Lib.hid (fun W => show Calls Tryz.prog 23 #[.pointer none] W (RetQ (zRc, false) W) from first_any (bo_none W) (by simp))
  have HLA := Lib.hid (fun W => show Calls Tryz.prog 24 #[.pointer none] W (RetQ (zRc, false) W) from last_any (bo_none W) (by simp))
  have HNL := Lib.hid (fun W => show Calls Tryz.prog 25 #[.pointer none] W (RetQ (zRc, false) W) from nextlost_any (bo_none W) (fun x hx => by simp at hx))
  have HD0 := Lib.hid (fun W B T (h : Bk W B T ⟨0, 0, 0⟩ [] []) => deliver_no h.o (bdo_none W))
  have HP0 := Lib.hid (fun W B T (h : Bk W B T ⟨0, 0, 0⟩ [] []) => show Calls Tryz.prog 27 #[.pointer (some ⟨B, 0, none⟩), .pointer none] W (RetI 0 W) from pipe_any h.o (fun x hx => by simp at hx) (fun x hx => by simp at hx) (bdo_none W))
  have HD1 := Lib.hid (fun W x tb (h : BdAt W x tb (newS 0)) => deliver_no (bo_none W) h.o)
  have HP1 := Lib.hid (fun W x tb (h : BdAt W x tb (newS 0)) => show Calls Tryz.prog 27 #[.pointer none, .pointer (some ⟨x, 0, none⟩)] W (RetI 0 W) from pipe_any (bo_none W) (fun x hx => by simp at hx) (fun x hx => by simp at hx) h.o)
  have HA1 := Lib.hid (fun W => show Calls Tryz.prog 13 #[.pointer none, .bool false] W fun e w' => ∃ a cap, e = .returned (.slice a 0 cap) ∧ Below W.heap.size W w' from rold_len (l := []) (lall_any (bo_none W) (fun x hx => by simp at hx) List.Pairwise.nil (by simp) false rfl))
  have HA2 := Lib.hid (fun W => show Calls Tryz.prog 13 #[.pointer none, .bool true] W fun e w' => ∃ a cap, e = .returned (.slice a 0 cap) ∧ Below W.heap.size W w' from rold_len (l := []) (lall_any (bo_none W) (fun x hx => by simp at hx) List.Pairwise.nil (by simp) true rfl))
  have HLE := Lib.hid (fun W => show Calls Tryz.prog 14 #[.pointer none] W fun e w' => e = .returned (.int .i64 0) ∧ W = w' from len_any (bo_none W))
  unfold RetQ at HF HLA HNL
  have b1 := bal (w := w) (.cells #[.int .i64 y.1, .int .i64 y.2] 24)
  have s1 := sp_new w y
  go_enter Tryz.func6, Tryz.ntmps6
  go_upto_region 6 with (first
    | (go_at_call 7; (with_reducible refine (known_any _).mono ?_); rintro e w1 ⟨rfl, h1⟩; have s2 := SpAt.later s1 h1; have b2 := b1.trans (h1.mono b1.size); clear h1 s1 b1)
    | (go_at_call 21; (with_reducible refine (HNB.out _).mono ?_); rintro e w2 ⟨x, tb, rfl, hd2, h2, g3, g4⟩; have s3 := SpAt.later s2 h2; have b3 := b2.trans (h2.mono b2.size); clear h2 s2 b2 g3 g4)
    | (go_at_call 22; (with_reducible refine (bagain_none now now _).mono ?_); rintro e w3 ⟨rfl, h3⟩; have Z : ZS w y x tb w3.heap.size (w3.alloc (rcB zRc)) := ⟨(s3.later h3).later (bal _), (hd2.later h3).later (bal _), heap_alloc_new w3 _, (b3.trans (h3.mono b3.size)).trans ((bal _).mono (b3.trans (h3.mono b3.size)).size)⟩; clear h3 s3 b3 hd2))
  generalize w3.alloc (rcB zRc) = V at *
  generalize w3.heap.size = R at *
  go_upto_region 7 with (go_at_call 23; (with_reducible refine (HF.out _).mono ?_); rintro e w4 ⟨rfl, h4⟩; have Z4 := Z.two h4 (rcB zRc); clear Z h4)
  generalize w4.alloc (rcB zRc) = V4 at *
  go_upto_region 8 with (go_at_call 24; (with_reducible refine (HLA.out _).mono ?_); rintro e w5 ⟨rfl, h5⟩; have Z5 := Z4.two h5 (rcB zRc); clear Z4 h5)
  generalize w5.alloc (rcB zRc) = V5 at *
  go_upto_region 9 with (go_at_call 25; (with_reducible refine (HNL.out _).mono ?_); rintro e w6 ⟨rfl, h6⟩; have Z6 := Z5.two h6 (rcB zRc); clear Z5 h6)
  generalize w6.alloc (rcB zRc) = V6 at *
  go_upto_region 12 with (first
    | (go_at_call 26; (with_reducible refine (HN.out _).mono ?_); rintro e w7 ⟨B, T, rfl, hb7, h7, _, _⟩; have Z7 := Z6.later h7; clear Z6 h7)
    | (go_at_call 18; (with_reducible refine (HD0.out _ _ _ hb7).mono ?_); rintro e w8 ⟨rfl, h8⟩; have hb8 := hb7.later h8; have Z8 := Z7.later h8; clear Z7 h8 hb7)
    | (go_at_call 27; (with_reducible refine (HP0.out _ _ _ hb8).mono ?_); rintro e w9 ⟨rfl, h9⟩; have Z9 := Z8.later h9; clear Z8 h9 hb8))
  have eqg := eq_rcg
  have eqz := eq_rcz
  have c0 := Z9.sp.c0; have c1 := Z9.sp.c1
  go_wp2_with (first
    | (go_at_call 28; (with_reducible refine (bsend_none y now _).mono ?_); rintro e v1 ⟨rfl, h1⟩; have Y1 := Z9.later h1; clear Z9 h1 c0 c1; have r0 : v1.cell? ⟨R, 0, none⟩ = some (.int .i64 0) := cofr Y1.rb 0 _ rfl; have r1 : v1.cell? ⟨R, 1, none⟩ = some (.int .i64 0) := cofr Y1.rb 1 _ rfl; have r2 : v1.cell? ⟨R, 2, none⟩ = some (.int .i64 0) := cofr Y1.rb 2 _ rfl; have r3 : v1.cell? ⟨R, 3, none⟩ = some (.int .i64 0) := cofr Y1.rb 3 _ rfl; have r4 : v1.cell? ⟨R, 4, none⟩ = some (.int .i64 0) := cofr Y1.rb 4 _ rfl; have r5 : v1.cell? ⟨R, 5, none⟩ = some (.int .i64 0) := cofr Y1.rb 5 _ rfl; have r6 : v1.cell? ⟨R, 6, none⟩ = some (.bool false) := cofr Y1.rb 6 _ rfl)
    | (go_at_call 29; (with_reducible refine (blose_none now _).mono ?_); rintro e v2 ⟨rfl, rfl⟩; clear r0 r1 r2 r3 r4 r5 r6 eqg eqz)
    | (go_at_call 30; (with_reducible refine (loseall_none _).mono ?_); rintro e v3 ⟨rfl, h3⟩; have Y3 := Y1.later h3; clear Y1 h3)
    | (go_at_call 31; (with_reducible refine (spareall_none _).mono ?_); rintro e v4 ⟨rfl, h4⟩; have Y4 := Y3.later h4; clear Y3 h4)
    | (go_at_call 18; (with_reducible refine (HD1.out _ _ _ Y4.bd).mono ?_); rintro e v5 ⟨rfl, h5⟩; have Y5 := Y4.later h5; clear Y4 h5)
    | (go_at_call 27; (with_reducible refine (HP1.out _ _ _ Y5.bd).mono ?_); rintro e v6 ⟨rfl, h6⟩; have Y6 := Y5.later h6; clear Y5 h6)
    | (go_at_call 13; first
      | ((with_reducible refine (HA1.out _).mono ?_); rintro e v7 ⟨a7, cap7, rfl, h7⟩; have Y7 := Y6.later h7; clear Y6 h7)
      | ((with_reducible refine (HA2.out _).mono ?_); rintro e v8 ⟨a8, cap8, rfl, h8⟩; have Y8 := Y7.later h8; clear Y7 h8))
    | (go_at_call 32; (with_reducible refine (nxt_no _).mono ?_); rintro e v9 ⟨rfl, rfl⟩)
    | (go_at_call 14; (with_reducible refine (HLE.out _).mono ?_); rintro e v10 ⟨rfl, rfl⟩)
    | (go_at_call 11; (with_reducible refine (bclone_none' _).mono ?_); rintro e v11 ⟨rfl, rfl⟩)
    | (go_at_call 7; (with_reducible refine (known_any _).mono ?_); rintro e v12 ⟨rfl, h12⟩; have Y12 := Y8.later h12; clear Y8 h12))
  go_ret
  exact ⟨rfl, Y12.below⟩
end Go.Proofs.YtohpaoleomcimaaGreat.bk
