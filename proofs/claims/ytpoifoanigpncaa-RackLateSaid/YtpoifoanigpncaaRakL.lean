/-
  Package rack: Late (written by gen_rakl.py out of rakl_head.txt).
-/
import Derived.Test.YtpoifoanigpncaaRakC
import Derived.Test.YtpoifoanigpncaaBokR
import Derived.Test.YtpoifoanigpncaaRngB
import Derived.Test.YtpoifoanigpncaaSpnS
import Derived.Test.YtpoifoanigpncaaApp
import Derived.Test.YtpoifoanigpncaaReg
namespace Go.Proofs.Ytpoifoanigpncaa.rk
open Go.RowKit Go.Shelf aid mem rng sp bk
attribute [local go_sem] Oper.semAt_some
set_option linter.unusedVariables false
set_option linter.unusedSimpArgs false

/-- what is late, and when the next one will be -/
def lt1 (O al now : Int) : List Nd → List (Int × Int) → List (Int × Int) × Int × Bool
  | [], acc => (acc, 0, false)
  | x :: rest, acc => if O ≤ x.2.order then (acc, 0, false) else if x.2.lost then lt1 O al now rest acc else if now ≤ x.2.sent + al then (acc, x.2.sent + al + 1, true) else lt1 O al now rest (acc ++ [(x.2.f, x.2.t)])
theorem tog_any {a b : Int} (ha : 0 ≤ a) (hb : 0 ≤ b) (hab : a + b ≤ 9223372036854775807) (w : World) : Calls Try.prog 46 #[.int .i64 a, .int .i64 b] w fun e w' => e = .returned (.int .i64 (a + b)) ∧ w = w' := by
  have h1 : b ≤ 9223372036854775807 - a := by omega
  go_enter Try.func46, Try.ntmps46
  go_wp2
  all_goals
    go_ret
    exact ⟨ret_i (by first | rfl | omega), rfl⟩
def RetL (w : World) (R : List (Int × Int) × Int × Bool) (e : Ending) (W' : World) : Prop :=
  ∃ v, e = .returned (.tuple #[v, .int .i64 R.2.1, .bool R.2.2]) ∧ W'.ownsRow w.heap.size 24 2 v R.1.length (spCells R.1) ∧ Below w.heap.size w W'
/-- the boxes that stay as they are -/
structure LF (w : World) (X bX bN r8 r9 r10 bA : Nat) (x : Rk) (al now : Int) (W : World) : Prop where
  rx : RkAt W X x
  x0 : W.heap[bX]? = some (.cells #[.pointer (some ⟨X, 0, none⟩)] 33 (0, 0))
  n0 : W.heap[bN]? = some (.cells #[.int .i64 now] 3 (0, 0))
  a0 : W.heap[bA]? = some (.cells #[.int .i64 al] 3 (0, 0))
  e8 : W.heap[r8]? = some (.cells #[.slice none 0 0] 61 (0, 0))
  e9 : W.heap[r9]? = some (.cells #[.int .i64 0] 3 (0, 0))
  e10 : W.heap[r10]? = some (.cells #[.bool false] 4 (0, 0))
  below : Below w.heap.size w W
theorem LF.steps {w W Y : World} {X bX bN r8 r9 r10 bA : Nat} {x : Rk} {al now : Int} {K : Nat → Prop} (h : LF w X bX bN r8 r9 r10 bA x al now W) (hs : rng.Steps K W Y) (hK : ∀ k ∈ [X, bX, bN, r8, r9, r10, bA], K k) (hw : ∀ k, k < w.heap.size → K k) : LF w X bX bN r8 r9 r10 bA x al now Y :=
  ⟨hs.heap (hK _ (by simp)) h.rx, hs.heap (hK _ (by simp)) h.x0, hs.heap (hK _ (by simp)) h.n0, hs.heap (hK _ (by simp)) h.a0, hs.heap (hK _ (by simp)) h.e8, hs.heap (hK _ (by simp)) h.e9, hs.heap (hK _ (by simp)) h.e10, h.below.trans (hs.below h.below.size hw)⟩
theorem LF.later {w W Y : World} {X bX bN r8 r9 r10 bA : Nat} {x : Rk} {al now : Int} (h : LF w X bX bN r8 r9 r10 bA x al now W) (hb : Below W.heap.size W Y) : LF w X bX bN r8 r9 r10 bA x al now Y :=
  h.steps (Steps.of_below hb (fun _ => True)) (fun _ _ => trivial) (fun _ _ => trivial)
/-- the list's box and its row -/
structure LV (w : World) (B : List Nat) (bL : Nat) (acc : List (Int × Int)) (v : Value) (C : Nat → Prop) (W : World) : Prop where
  box : W.heap[bL]? = some (.cells #[v] 61 (0, 0))
  cL : C bL
  own : W.ownsRow w.heap.size 24 2 v acc.length (spCells acc)
  row : ∀ k, v.ownBlock = some k → C k ∧ k ∉ B ∧ k ≠ bL
theorem LV.steps {w W Y : World} {B : List Nat} {bL n : Nat} {acc : List (Int × Int)} {v : Value} {C : Nat → Prop} (h : LV w B bL acc v C W) (hs : rng.Steps (fun k => k < n ∨ C k) W Y) : LV w B bL acc v C Y :=
  ⟨hs.heap (.inr h.cL) h.box, h.cL, own_step h.own (fun k o hk ho => hs.heap (.inr (h.row k hk).1) ho), h.row⟩
/-- between two rounds -/
def LtI (w : World) (X bX bN r8 r9 r10 bA bL : Nat) (x : Rk) (al now : Int) (L : List Nd) (R : List (Int × Int) × Int × Bool) (pre : List Nd) (C : Nat → Prop) (W : World) : Prop :=
  ∃ v acc rest, pre ++ rest = L ∧ lt1 x.order al now rest acc = R ∧ LF w X bX bN r8 r9 r10 bA x al now W ∧ LV w [bX, bN, r8, r9, r10, bA] bL acc v C W ∧ (C r8 ∧ C r9 ∧ C r10) ∧ acc.length ≤ pre.length
/-- how it is left -/
def LtX (w : World) (X bX bN r8 r9 r10 bA bL : Nat) (x : Rk) (al now : Int) (R : List (Int × Int) × Int × Bool) (c : Code) (pre : List Nd) (C : Nat → Prop) (W : World) : Prop :=
  (c = .ret ∧ ∃ v, C r8 ∧ C r9 ∧ C r10 ∧ W.heap[r8]? = some (.cells #[v] 61 (0, 0)) ∧ W.heap[r9]? = some (.cells #[.int .i64 R.2.1] 3 (0, 0)) ∧ W.heap[r10]? = some (.cells #[.bool R.2.2] 4 (0, 0)) ∧ W.ownsRow w.heap.size 24 2 v R.1.length (spCells R.1) ∧ (∀ k, v.ownBlock = some k → C k) ∧ Below w.heap.size w W) ∨
  (c = .exit 0 ∧ ∃ v acc, R = (acc, 0, false) ∧ LF w X bX bN r8 r9 r10 bA x al now W ∧ LV w [bX, bN, r8, r9, r10, bA] bL acc v C W ∧ (C r8 ∧ C r9 ∧ C r10))
section
variable {w : World} {X bX bN r8 r9 r10 bA bL n : Nat} {x : Rk} {al now : Int} {L : List Nd} {R : List (Int × Int) × Int × Bool}
theorem lti_bears (hn : ∀ k ∈ [X, bX, bN, r8, r9, r10, bA], k < n) (hw : w.heap.size ≤ n) : Bears n (LtI w X bX bN r8 r9 r10 bA bL x al now L R) := by
  rintro pre C W1 W2 ⟨v, acc, rest, h1, h2, h3, h4, h5, h6⟩ hz hs
  exact ⟨v, acc, rest, h1, h2, h3.steps hs (fun k hk => .inl (hn k hk)) (fun k hk => .inl (by omega)), h4.steps hs, h5, h6⟩
theorem ltx_bears (hn : ∀ k ∈ [X, bX, bN, r8, r9, r10, bA], k < n) (hw : w.heap.size ≤ n) (c : Code) : Bears n (LtX w X bX bN r8 r9 r10 bA bL x al now R c) := by
  rintro pre C W1 W2 h hz hs
  rcases h with ⟨h0, v, h1, h2, h3, h4, h5, h6, h7, h8, h9⟩ | ⟨h0, v, acc, h1, h2, h3, h4⟩
  · exact .inl ⟨h0, v, h1, h2, h3, hs.heap (.inr h1) h4, hs.heap (.inr h2) h5, hs.heap (.inr h3) h6, own_step h7 (fun k o hk ho => hs.heap (.inr (h8 k hk)) ho), h8, h9.trans (hs.below h9.size (fun k hk => .inl (by omega)))⟩
  · exact .inr ⟨h0, v, acc, h1, h2.steps hs (fun k hk => .inl (hn k hk)) (fun k hk => .inl (by omega)), h3.steps hs, h4⟩
end
/-- the end: results are read behind the loop's own object -/
theorem late_fin {w Y : World} {r8 r9 r10 D : Nat} {acc : List (Int × Int)} {v : Value} {m : Int} {b : Bool} (h8 : Y.heap[r8]? = some (.cells #[v] 61 (0, 0))) (h9 : Y.heap[r9]? = some (.cells #[.int .i64 m] 3 (0, 0))) (h10 : Y.heap[r10]? = some (.cells #[.bool b] 4 (0, 0)))
    (ho : Y.ownsRow w.heap.size 24 2 v acc.length (spCells acc)) (hb : Below w.heap.size w Y) (hD : ∀ k ∈ [r8, r9, r10], k ≠ D) (hv : ∀ k, v.ownBlock = some k → k ≠ D) (hw : w.heap.size ≤ D) :
    (Y.putObj D (.deferred none)).cell? ⟨r8, 0, none⟩ = some v ∧ (Y.putObj D (.deferred none)).cell? ⟨r9, 0, none⟩ = some (.int .i64 m) ∧ (Y.putObj D (.deferred none)).cell? ⟨r10, 0, none⟩ = some (.bool b) ∧ (Y.putObj D (.deferred none)).ownsRow w.heap.size 24 2 v acc.length (spCells acc) ∧ Below w.heap.size w (Y.putObj D (.deferred none)) :=
  ⟨cofr ((World.putObj_heap_other (hD r8 (by simp))).trans h8) 0 _ rfl, cofr ((World.putObj_heap_other (hD r9 (by simp))).trans h9) 0 _ rfl, cofr ((World.putObj_heap_other (hD r10 (by simp))).trans h10) 0 _ rfl,
   own_step ho (fun k o hk ho => (World.putObj_heap_other (hv k hk)).trans ho), hb.trans ((rng.Steps.putObj (fun k => k < w.heap.size) Y D _ (by omega)).below (n := w.heap.size) hb.size (fun k hk => hk))⟩
/-- the three results are stored -/
theorem late_put {w V : World} {X bX bN r8 r9 r10 bA bL : Nat} {x : Rk} {al now : Int} {acc : List (Int × Int)} {v : Value} {C : Nat → Prop} (lf : LF w X bX bN r8 r9 r10 bA x al now V) (lv : LV w [bX, bN, r8, r9, r10, bA] bL acc v C V) (h89 : r8 ≠ r9) (h810 : r8 ≠ r10) (h910 : r9 ≠ r10) (hr : w.heap.size ≤ r8 ∧ w.heap.size ≤ r9 ∧ w.heap.size ≤ r10) (m : Int) (b : Bool) :
    (((V.setCell ⟨r8, 0, none⟩ v).setCell ⟨r9, 0, none⟩ (.int .i64 m)).setCell ⟨r10, 0, none⟩ (.bool b)).heap[r8]? = some (.cells #[v] 61 (0, 0)) ∧ (((V.setCell ⟨r8, 0, none⟩ v).setCell ⟨r9, 0, none⟩ (.int .i64 m)).setCell ⟨r10, 0, none⟩ (.bool b)).heap[r9]? = some (.cells #[.int .i64 m] 3 (0, 0)) ∧ (((V.setCell ⟨r8, 0, none⟩ v).setCell ⟨r9, 0, none⟩ (.int .i64 m)).setCell ⟨r10, 0, none⟩ (.bool b)).heap[r10]? = some (.cells #[.bool b] 4 (0, 0)) ∧
    (((V.setCell ⟨r8, 0, none⟩ v).setCell ⟨r9, 0, none⟩ (.int .i64 m)).setCell ⟨r10, 0, none⟩ (.bool b)).ownsRow w.heap.size 24 2 v acc.length (spCells acc) ∧ Below w.heap.size w (((V.setCell ⟨r8, 0, none⟩ v).setCell ⟨r9, 0, none⟩ (.int .i64 m)).setCell ⟨r10, 0, none⟩ (.bool b)) ∧ Kept [r8, r9, r10] V (((V.setCell ⟨r8, 0, none⟩ v).setCell ⟨r9, 0, none⟩ (.int .i64 m)).setCell ⟨r10, 0, none⟩ (.bool b)) := by
  have k1 := kset V r8 0 v
  have k2 := kset (V.setCell ⟨r8, 0, none⟩ v) r9 0 (.int .i64 m)
  have k3 := kset ((V.setCell ⟨r8, 0, none⟩ v).setCell ⟨r9, 0, none⟩ (.int .i64 m)) r10 0 (.bool b)
  have k : Kept [r8, r9, r10] V _ := ((k1.mono (by simp)).trans k2 (by simp)).trans k3 (by simp)
  have e8 := (setp lf.e8 v (i := 0)).trans (show _ = some (Obj.cells #[v] 61 (0, 0)) from rfl)
  have e9 := (setp (k1.heap (by simpa using h89.symm) lf.e9) (.int .i64 m) (i := 0)).trans (show _ = some (Obj.cells #[.int .i64 m] 3 (0, 0)) from rfl)
  have e10 := (setp (k2.heap (by simpa using h910.symm) (k1.heap (by simpa using h810.symm) lf.e10)) (.bool b) (i := 0)).trans (show _ = some (Obj.cells #[.bool b] 4 (0, 0)) from rfl)
  refine ⟨k3.heap (by simpa using h810) (k2.heap (by simpa using h89) e8), k3.heap (by simpa using h910) e9, e10, ?_, lf.below.trans (k.below (by simp; omega) lf.below.size), k⟩
  refine own_step lv.own (fun k' o hk ho => k.heap ?_ ho)
  have := (lv.row k' hk).2.1
  simp at this ⊢
  exact ⟨this.2.2.1, this.2.2.2.1, this.2.2.2.2.1⟩
/-- one more is late -/
theorem late_next {w V X1 w1 : World} {X bX bN r8 r9 r10 bA bL : Nat} {x : Rk} {al now : Int} {acc : List (Int × Int)} {v v' : Value} {C : Nat → Prop} {s : Int × Int} (lf : LF w X bX bN r8 r9 r10 bA x al now V) (lv : LV w [bX, bN, r8, r9, r10, bA] bL acc v C V) (hc : C r8 ∧ C r9 ∧ C r10) (hbL : bL ∉ [X, bX, bN, r8, r9, r10, bA]) (hXw : X < w.heap.size) (hLw : w.heap.size ≤ bL)
    (hX : X1 = V.alloc (.cells #[.int .i64 s.1, .int .i64 s.2] 24)) (ho : w1.ownsRow w.heap.size 24 2 v' (acc.length + 1) (spCells acc ++ [.int .i64 s.1, .int .i64 s.2])) (hg : X1.grownBy w1 v.ownBlock) (hw : v'.ownBlock = v.ownBlock ∨ v'.ownBlock = some X1.heap.size) (hvb : ∀ k, v.ownBlock = some k → w.heap.size ≤ k) :
    ∃ C', Round C V C' (w1.setCell ⟨bL, 0, none⟩ v') ∧ LF w X bX bN r8 r9 r10 bA x al now (w1.setCell ⟨bL, 0, none⟩ v') ∧ LV w [bX, bN, r8, r9, r10, bA] bL (acc ++ [s]) v' C' (w1.setCell ⟨bL, 0, none⟩ v') ∧ (C' r8 ∧ C' r9 ∧ C' r10) := by
  have hz : X1.heap.size = V.heap.size + 1 := by rw [hX]; simp
  have b1 : Below V.heap.size V X1 := by rw [hX]; exact bk.al V _
  have hBV := lt_of_block lv.box
  have nB : v.ownBlock ≠ some bL := fun e => (lv.row bL e).2.2 rfl
  have hB1 : w1.heap[bL]? = some (.cells #[v] 61 (0, 0)) := (hg.block bL (by omega) (fun e => nB e.symm)).trans ((b1.block bL hBV).trans lv.box)
  have hzz : (w1.setCell ⟨bL, 0, none⟩ v').heap.size = w1.heap.size := by simp
  have sA : rng.Steps (fun k => v.ownBlock ≠ some k ∧ k ≠ bL) V (w1.setCell ⟨bL, 0, none⟩ v') := by
    refine ((rng.Steps.of_below b1 _).trans (B := X1) ?_).trans (rng.Steps.setCell _ _ _ _ (fun e => e.2 rfl))
    exact ⟨hg.os, hg.tape, hg.output, hg.size, fun k hk hn => hg.block k hk (fun e => hn.1 e.symm)⟩
  have s1 : rng.Steps (fun k => ¬ C k) V (w1.setCell ⟨bL, 0, none⟩ v') := sA.mono (fun k _ hn => ⟨fun e => hn (lv.row k e).1, fun e => hn (e ▸ lv.cL)⟩)
  refine ⟨fun k => C k ∨ (V.heap.size ≤ k ∧ k < w1.heap.size), ⟨s1, fun k hk => by rw [hzz]; exact hk⟩, lf.steps sA (fun k hk => ⟨fun e => ?_, fun e => hbL (e ▸ hk)⟩) (fun k hk => ⟨fun e => by have := hvb k e; omega, by omega⟩), ⟨(setp hB1 _).trans rfl, .inl lv.cL, ?_, ?_⟩, ⟨.inl hc.1, .inl hc.2.1, .inl hc.2.2⟩⟩
  · rcases List.mem_cons.1 hk with rfl | hk
    · have := hvb k e; omega
    · exact (lv.row k e).2.1 hk
  · rw [List.length_append, List.length_singleton, spCells_snoc]
    refine own_step ho (fun k o hk hko => (Below.heap_setCell w1 ⟨bL, 0, none⟩ v' k ?_).trans hko)
    rintro rfl
    rcases hw with e | e
    · exact nB (e ▸ hk)
    · rw [e] at hk; cases hk; omega
  · intro k hk
    rcases hw with e | e
    · rw [e] at hk; exact ⟨.inl (lv.row k hk).1, (lv.row k hk).2⟩
    · rw [e] at hk
      cases hk
      have := (own_in ho e).1
      have h1 := lt_of_block lf.x0; have h2 := lt_of_block lf.n0; have h3 := lt_of_block lf.a0; have h4 := lt_of_block lf.e8; have h5 := lt_of_block lf.e9; have h6 := lt_of_block lf.e10
      refine ⟨.inr ⟨by omega, by omega⟩, by simp; omega, by omega⟩
theorem lt_step (O al now : Int) (y : Nd) (rest : List Nd) (acc : List (Int × Int)) : lt1 O al now (y :: rest) acc = if O ≤ y.2.order then (acc, 0, false) else if y.2.lost then lt1 O al now rest acc else if now ≤ y.2.sent + al then (acc, y.2.sent + al + 1, true) else lt1 O al now rest (acc ++ [(y.2.f, y.2.t)]) := rfl
theorem boxes5 (w : World) (X : Nat) (now : Int) : ∀ W, W = ((((w.alloc (.cells #[.pointer (some ⟨X, 0, none⟩)] 33)).alloc (.cells #[.int .i64 now] 3)).alloc (.cells #[.slice none 0 0] 61)).alloc (.cells #[.int .i64 0] 3)).alloc (.cells #[.bool false] 4) →
    W.heap[w.heap.size]? = some (.cells #[.pointer (some ⟨X, 0, none⟩)] 33 (0, 0)) ∧ W.heap[w.heap.size + 1]? = some (.cells #[.int .i64 now] 3 (0, 0)) ∧ W.heap[w.heap.size + 1 + 1]? = some (.cells #[.slice none 0 0] 61 (0, 0)) ∧ W.heap[w.heap.size + 1 + 1 + 1]? = some (.cells #[.int .i64 0] 3 (0, 0)) ∧ W.heap[w.heap.size + 1 + 1 + 1 + 1]? = some (.cells #[.bool false] 4 (0, 0)) ∧ Below w.heap.size w W ∧ W.heap.size = w.heap.size + 5 := by
  rintro W rfl
  have y0 := heap_alloc_new w (.cells #[.pointer (some ⟨X, 0, none⟩)] 33)
  have b0 := al w (.cells #[.pointer (some ⟨X, 0, none⟩)] 33)
  have z0 : (w.alloc (.cells #[.pointer (some ⟨X, 0, none⟩)] 33)).heap.size = w.heap.size + 1 := by simp
  generalize w.alloc (.cells #[.pointer (some ⟨X, 0, none⟩)] 33) = w1 at *
  have y1 := heap_alloc_new w1 (.cells #[.int .i64 now] 3)
  have b1 := al w1 (.cells #[.int .i64 now] 3)
  have z1 : (w1.alloc (.cells #[.int .i64 now] 3)).heap.size = w.heap.size + 1 + 1 := by simp [z0]
  generalize w1.alloc (.cells #[.int .i64 now] 3) = w2 at *
  have y2 := heap_alloc_new w2 (.cells #[.slice none 0 0] 61)
  have b2 := al w2 (.cells #[.slice none 0 0] 61)
  have z2 : (w2.alloc (.cells #[.slice none 0 0] 61)).heap.size = w.heap.size + 1 + 1 + 1 := by simp [z1]
  generalize w2.alloc (.cells #[.slice none 0 0] 61) = w3 at *
  have y3 := heap_alloc_new w3 (.cells #[.int .i64 0] 3)
  have b3 := al w3 (.cells #[.int .i64 0] 3)
  have z3 : (w3.alloc (.cells #[.int .i64 0] 3)).heap.size = w.heap.size + 1 + 1 + 1 + 1 := by simp [z2]
  generalize w3.alloc (.cells #[.int .i64 0] 3) = w4 at *
  have y4 := heap_alloc_new w4 (.cells #[.bool false] 4)
  have b4 := al w4 (.cells #[.bool false] 4)
  have z4 : (w4.alloc (.cells #[.bool false] 4)).heap.size = w.heap.size + 5 := by simp [z3]
  generalize w4.alloc (.cells #[.bool false] 4) = w5 at *
  rw [z0] at y1; rw [z1] at y2; rw [z2] at y3; rw [z3] at y4
  have b35 := b3.trans (b4.mono b3.size)
  have b25 := b2.trans (b35.mono b2.size)
  have b15 := b1.trans (b25.mono b1.size)
  exact ⟨(b15.block _ (by omega)).trans y0, (b25.block _ (by omega)).trans y1, (b35.block _ (by omega)).trans y2, (b4.block _ (by omega)).trans y3, y4, b0.trans (b15.mono b0.size), z4⟩
set_option maxRecDepth 100000 in
set_option maxHeartbeats 4000000 in
theorem late_any {w : World} {X B : Nat} {x : Rk} {L : List Nd} (hX : RkAt w X x) (hL : Lr w B L) (ho : Ord L) (hr : 0 ≤ x.rtt ∧ x.rtt ≤ 2305843009213693952) (hs : ∀ y ∈ L, 0 ≤ y.2.sent ∧ y.2.sent ≤ 2305843009213693952) (hl : L.length ≤ 900000) (now window : Int) :
    Calls Try.prog 20 #[.pointer (some ⟨X, 0, none⟩), .pointer (some ⟨B, 0, none⟩), .int .i64 now, .int .i64 window] w (RetL w (lt1 x.order (x.rtt + hld window) now L [])) := by
  have hb := hld_bd window
  obtain ⟨r0, r1⟩ := hr
  have HTG := Lib.hid (fun W => tog_any (a := x.rtt) (b := hld window) r0 hb.1 (by omega) W)
  have hMO : Try.prog.follows .mixedOrders = true := by kernel_rfl
  obtain ⟨al, hal⟩ : ∃ al, al = x.rtt + hld window := ⟨_, rfl⟩
  have hal2 : 0 ≤ al ∧ al ≤ 2305843078933170688 := by omega
  rw [← hal] at HTG ⊢
  clear hal hb
  obtain ⟨c0, c1, c2, c3, c4, c5, c6, c7⟩ := hX.cs
  have HX := Lib.hid hX
  have HL := Lib.hid hL
  clear hX hL
  refine (callsIn_wide (n := 6)).1 ?_
  refine callsIn_of_wp_marks Try.func20 rfl trivial ?_ rfl
  simp only [Try.ntmps20, List.size_toArray, List.length_cons, List.length_nil, Nat.reduceAdd, Nat.reduceSub, Array.replicate_succ, Array.replicate_zero, List.push_toArray, List.append_toArray, List.nil_append, List.cons_append]
  gi_wp2
  obtain ⟨x0, n0, e8, e9, e10, b5, z5⟩ := boxes5 w X now _ rfl
  generalize (((((w.alloc (.cells #[.pointer (some ⟨X, 0, none⟩)] 33)).alloc (.cells #[.int .i64 now] 3)).alloc (.cells #[.slice none 0 0] 61)).alloc (.cells #[.int .i64 0] 3)).alloc (.cells #[.bool false] 4)) = W5 at *
  have x5 := HX.out.later b5
  have z3 := And.intro (show W5.drew.cell? ⟨w.heap.size, 0, none⟩ = some (.pointer (some ⟨X, 0, none⟩)) from cofr x0 0 _ rfl) (show W5.drew.cell? ⟨X, 1, none⟩ = some (.int .i64 x.rtt) from x5.cs.2.1)
  have HKA := Lib.hid (And.intro (ck (bk.al W5.drew (.cells #[.int .i64 0] 3)) z3.1) (ck (bk.al W5.drew (.cells #[.int .i64 0] 3)) z3.2))
  have HKB := Lib.hid (And.intro (ck (bk.al W5.drew (.cells #[.int .i64 al] 3)) z3.1) (ck (bk.al W5.drew (.cells #[.int .i64 al] 3)) z3.2))
  obtain ⟨bX, hbX⟩ : ∃ b, w.heap.size = b := ⟨_, rfl⟩
  have HBX := Lib.hid hbX
  rw [hbX] at x0 n0 e8 e9 e10 z3 HKA HKB z5 ⊢
  clear hbX c0 c1 c2 c3 c4 c5 c6 c7
  rename_i K hK
  have HREST : Hid (K { tmps := #[.pointer (some ⟨X, 0, none⟩), .pointer (some ⟨B, 0, none⟩), .int .i64 now, .int .i64 window, .pointer (some ⟨bX, 0, none⟩), undef, .pointer (some ⟨bX + 1, 0, none⟩), undef, .pointer (some ⟨bX + 1 + 1, 0, none⟩), .pointer (some ⟨bX + 1 + 1 + 1, 0, none⟩), .pointer (some ⟨bX + 1 + 1 + 1 + 1, 0, none⟩), .pointer (some ⟨bX + 5, 0, none⟩), undef, undef, undef, .pointer (some ⟨X, 0, none⟩), .bool false, .pointer (some ⟨X, 0, none⟩), .pointer (some ⟨X, 0, none⟩), .pointer (some ⟨X, 1, none⟩), .int .i64 x.rtt, .int .i64 window, .int .i64 (hld window), .int .i64 al, undef, undef, undef, undef, undef, undef, undef, undef, undef, undef, undef, undef, undef, undef, undef, undef, undef, undef, undef, undef, undef, undef, undef, undef, undef, undef, undef, undef], defers := [] } (W5.alloc (.cells #[.int .i64 al] 3)).drew) := Lib.hid (by
    refine hK _ _ ?_
    clear hK HKA HKB HTG z3
    have b6 : Below W5.heap.size W5 (W5.alloc (.cells #[.int .i64 al] 3)).drew := (bk.al W5 (.cells #[.int .i64 al] 3)).drew
    have y6 : (W5.alloc (.cells #[.int .i64 al] 3)).drew.heap[W5.heap.size]? = some (.cells #[.int .i64 al] 3 (0, 0)) := heap_alloc_new W5 _
    have z6 : (W5.alloc (.cells #[.int .i64 al] 3)).drew.heap.size = bX + 6 := by show (W5.alloc _).heap.size = _; simp; omega
    generalize (W5.alloc (.cells #[.int .i64 al] 3)).drew = W6 at *
    rw [z5] at y6
    have b56 := b5.trans (b6.mono b5.size)
    have b7 := bk.al W6 (.cells #[.slice none 0 0] 61)
    have y7 := heap_alloc_new W6 (.cells #[.slice none 0 0] 61)
    rw [z6] at y7
    have z7 : (W6.alloc (.cells #[.slice none 0 0] 61)).heap.size = bX + 7 := by simp; omega
    have b57 := b6.trans (b7.mono b6.size)
    have b07 := b56.trans (b7.mono b56.size)
    have hXlt := HX.out.lt
    obtain ⟨hbx, hbx2⟩ : w.heap.size ≤ bX ∧ bX ≤ w.heap.size := by have := HBX.out; omega
    have lf : LF w X bX (bX + 1) (bX + 1 + 1) (bX + 1 + 1 + 1) (bX + 1 + 1 + 1 + 1) (bX + 5) x al now (W6.alloc (.cells #[.slice none 0 0] 61)) :=
      ⟨HX.out.later b07, (b57.block _ (lt_of_block x0)).trans x0, (b57.block _ (lt_of_block n0)).trans n0, (b7.block _ (lt_of_block y6)).trans y6, (b57.block _ (lt_of_block e8)).trans e8, (b57.block _ (lt_of_block e9)).trans e9, (b57.block _ (lt_of_block e10)).trans e10, b07⟩
    have HIN := Lib.hid (inorder_any (HL.out.later b07) ho (fun k => k = (bX + 6) ∨ k = bX + 1 + 1 ∨ k = bX + 1 + 1 + 1 ∨ k = bX + 1 + 1 + 1 + 1) (fun y hy e => by
      have := seg_lt HL.out.sg hy
      rcases e with e | e | e | e <;> omega))
    have HLF := Lib.hid lf
    have HY7 := Lib.hid y7
    clear lf y7 b6 b7 b56 b57 x0 n0 e8 e9 e10 y6 b07
    gi_wp2
    refine ⟨trivial, ?_⟩
    refine (callsIn_wide.2 HIN.out).mono ?_
    rintro e w8 ⟨lb, rfl, hseq, hb8⟩
    have HSEQ := Lib.hid hseq
    clear hseq HIN
    have z8 := hb8.size
    rw [z7] at z8
    gi_wp2
    have lf8 := HLF.out.later hb8
    have y8 := (hb8.block _ (by rw [z7]; omega)).trans HY7.out
    refine wpIn_rangeBox (fun (b : Nat) (y : Nd) (t : Array Value) => (t.setIfInBounds 26 (rcV y.2)).setIfInBounds 13 (.pointer (some ⟨b, 0, none⟩))) (gf := 70) (lb := lb) (L := L) (A := fun k => k = (bX + 6) ∨ k = bX + 1 + 1 ∨ k = bX + 1 + 1 + 1 ∨ k = bX + 1 + 1 + 1 + 1) (w0 := w8) (encs := recE) rfl eg_rec HSEQ.out (Below.refl _ _) (fun _ => rfl)
      (LtI w X bX (bX + 1) (bX + 1 + 1) (bX + 1 + 1 + 1) (bX + 1 + 1 + 1 + 1) (bX + 5) (bX + 6) x al now L (lt1 x.order al now L [])) (LtX w X bX (bX + 1) (bX + 1 + 1) (bX + 1 + 1 + 1) (bX + 1 + 1 + 1 + 1) (bX + 5) (bX + 6) x al now (lt1 x.order al now L []))
      (fun k => k = (bX + 6) ∨ k = bX + 1 + 1 ∨ k = bX + 1 + 1 + 1 ∨ k = bX + 1 + 1 + 1 + 1) ?hc0 (lti_bears (fun k hk => by simp at hk; omega) (by omega)) (ltx_bears (fun k hk => by simp at hk; omega) (by omega)) ?h0
      (fun b y C X => X.heap[b]? = some (boxR y.2) ∧ w8.heap.size ≤ b ∧ C b ∧ (∃ v0, X.heap[(bX + 6)]? = some (.cells #[v0] 61 (0, 0)) ∧ v0.ownBlock ≠ some b)) ?hB ?assign ?body ?done ?stop
    case hc0 => rintro k hk; exact ⟨.inl hk, by rcases hk with rfl | rfl | rfl | rfl <;> omega⟩
    case h0 => exact ⟨.slice none 0 0, [], L, rfl, rfl, lf8, ⟨y8, .inl rfl, World.ownsRow_nil _ _ _ _, fun k hk => by cases hk⟩, ⟨.inr (.inl rfl), .inr (.inr (.inl rfl)), .inr (.inr (.inr rfl))⟩, Nat.le_refl _⟩
    case hB =>
      rintro b y _ C X Y ⟨h1, h2, h3, v0, h4, h5⟩ hz hs
      exact ⟨hs.heap (.inr h3) h1, h2, h3, v0, hs.heap (.inl (by omega)) h4, h5⟩
    case assign =>
      rintro l' pre y C V K ⟨v, acc, rest, h1, h2, h3, h4, h5, h6⟩ hp hc hz hK
      have b1 := bk.al V (boxR y.2)
      have h4b := (b1.block _ (lt_of_block h4.box)).trans h4.box
      have HK := Lib.hid (hK V.heap.size (fun k => C k ∨ k = V.heap.size) _ ⟨Steps.of_below b1 _, fun k hk => by rcases hk with hk | rfl; exact .inl hk; exact .inr ⟨Nat.le_refl _, by simp⟩⟩
        ⟨v, acc, rest, h1, h2, h3.later b1, ⟨h4b, .inl h4.cL, own_later h4.own b1, fun k hk => ⟨.inl (h4.row k hk).1, (h4.row k hk).2⟩⟩, ⟨.inl h5.1, .inl h5.2.1, .inl h5.2.2⟩, h6⟩ ⟨heap_alloc_new V _, hz, .inr rfl, v, h4b, fun e => by have := (own_in h4.own e).1; omega⟩)
      clear hK h1 h2 h3 h4 h5 h6 h4b hp hc b1
      gi_wp2
      exact HK.out
    case body =>
      rintro l' pre y b C V ⟨v, acc, rest, h1, h2, h3, h4, h5, h6⟩ ⟨g1, g2, g3, v0, g4, g5⟩ hp hcc hz
      have hrest : ∃ t, rest = y :: t ∧ (pre ++ [y]) ++ t = L := by
        obtain ⟨t, ht⟩ := hp
        refine ⟨t, ?_, ht⟩
        have : pre ++ rest = pre ++ (y :: t) := by rw [h1, ← ht]; simp
        exact List.append_cancel_left this
      obtain ⟨t, rfl, ht⟩ := hrest
      rw [lt_step] at h2
      have hvb : v.ownBlock ≠ some b := by
        have : v0 = v := by have := g4.symm.trans h4.box; simpa using this
        rw [← this]; exact g5
      have hym : y ∈ L := by rw [← ht]; simp
      have hys := hs y hym
      have hacc : acc.length < 1000000 := by
        have hh := congrArg List.length ht
        simp only [List.length_append] at hh
        have hh2 := hl
        simp only [List.length_cons, List.length_nil] at hh
        omega
      have HT := Lib.hid ht
      have HR := Lib.hid h2
      have HLEN := Lib.hid h6
      have HC5 := Lib.hid h5
      have H1 := Lib.hid h1
      have rd : Round C V C V.drew := ⟨rng.Steps.drew _ V, fun _ h => .inl h⟩
      have lfd := h3.steps (rng.Steps.drew (fun _ => True) V) (fun _ _ => trivial) (fun _ _ => trivial)
      have lvd := h4.steps (n := 0) (rng.Steps.drew _ V)
      have gd : V.drew.heap[b]? = some (boxR y.2) := g1
      have z7 := And.intro (show V.drew.cell? ⟨b, 3, none⟩ = some (.int .i64 y.2.order) from (box_cs g1).2.2.2.1) (And.intro (show V.drew.cell? ⟨bX, 0, none⟩ = some (.pointer (some ⟨X, 0, none⟩)) from cofr h3.x0 0 _ rfl) (show V.drew.cell? ⟨X, 2, none⟩ = some (.int .i64 x.order) from h3.rx.cs.2.2.1))
      have HG := Lib.hid gd
      have HLF2 := Lib.hid lfd
      have HLV := Lib.hid lvd
      have hbL : b ≠ bX + 6 := by omega
      simp only [List.setIfInBounds_toArray, List.set_cons_zero, List.set_cons_succ]
      generalize hRP : rPost (LtI w X bX (bX + 1) (bX + 1 + 1) (bX + 1 + 1 + 1) (bX + 1 + 1 + 1 + 1) (bX + 5) (bX + 6) x al now L (lt1 x.order al now L [])) (LtX w X bX (bX + 1) (bX + 1 + 1) (bX + 1 + 1 + 1) (bX + 1 + 1 + 1 + 1) (bX + 5) (bX + 6) x al now (lt1 x.order al now L [])) (pre ++ [y]) C V = RP at *
      have HRN := Lib.hid (fun (C' : Nat → Prop) (W' : World) (hr : Round C V C' W') (hg : LtI w X bX (bX + 1) (bX + 1 + 1) (bX + 1 + 1 + 1) (bX + 1 + 1 + 1 + 1) (bX + 5) (bX + 6) x al now L (lt1 x.order al now L []) (pre ++ [y]) C' W') (a' : Act) => show RP .normal a' W' from by rw [← hRP]; exact ⟨C', hr, hg⟩)
      have HRX := Lib.hid (fun (C' : Nat → Prop) (W' : World) (hr : Round C V C' W') (hg : LtX w X bX (bX + 1) (bX + 1 + 1) (bX + 1 + 1 + 1) (bX + 1 + 1 + 1 + 1) (bX + 5) (bX + 6) x al now (lt1 x.order al now L []) .ret (pre ++ [y]) C' W') (a' : Act) => show RP .ret a' W' from by rw [← hRP]; exact ⟨C', hr, hg⟩)
      have HRE := Lib.hid (fun (C' : Nat → Prop) (W' : World) (hr : Round C V C' W') (hg : LtX w X bX (bX + 1) (bX + 1 + 1) (bX + 1 + 1 + 1) (bX + 1 + 1 + 1 + 1) (bX + 5) (bX + 6) x al now (lt1 x.order al now L []) (.exit 0) (pre ++ [y]) C' W') (a' : Act) => show RP (.exit 0) a' W' from by rw [← hRP]; exact ⟨C', hr, hg⟩)
      clear hRP h1 h2 h3 h4 h5 h6 g1 g4 g5 hp hcc ht HSEQ HBX lfd lvd gd hs
      obtain ⟨d0, d1, d2, d3, d4, d5, d6⟩ := box_cs HG.out
      have dA := cofr HLF2.out.a0 0 _ rfl
      have dN := cofr HLF2.out.n0 0 _ rfl
      by_cases hO : x.order ≤ y.2.order
      · have hOb := decide_eq_true hO
        have HR2 := HR.out
        rw [if_pos hO] at HR2
        have HF := Lib.hid (HRE.out C V.drew rd (.inr ⟨rfl, v, acc, HR2.symm, HLF2.out, HLV.out, HC5.out⟩))
        clear HR2 hO
        gi_wp2
        refine wpIn_region_inR (S := (fun w' => w'.cell? ⟨b, 3, none⟩ = some (.int .i64 y.2.order) ∧ w'.cell? ⟨bX, 0, none⟩ = some (.pointer (some ⟨X, 0, none⟩)) ∧ w'.cell? ⟨X, 2, none⟩ = some (.int .i64 x.order))) hMO (by kernel_rfl) ?_
        refine wpAnyH_take (i := 0) (oi := _) (v := ?_) rfl (by kernel_rfl) (by kernel_rfl) (by kernel_rfl) (fun _ _ _ h => h) (Or.inl ⟨by rfl, ?_⟩) (by assumption) ?_
        rotate_left
        · (first | (intro v hSw; (try dsimp only at hSw); go_simp; done) | (intro v hSw; (try dsimp only at hSw); go_simp; with_reducible rfl))
        (try simp only [List.getElem_toArray, List.getElem_cons_succ, List.getElem_cons_zero, Act.put, List.setIfInBounds_toArray, List.set_cons_zero, List.set_cons_succ])
        refine wpAnyH_take (i := 1) (oi := _) (v := ?_) rfl (by kernel_rfl) (by kernel_rfl) (by kernel_rfl) (fun _ _ _ h => h) (Or.inl ⟨by rfl, ?_⟩) (by assumption) ?_
        rotate_left
        · (first | (intro v hSw; (try dsimp only at hSw); go_simp; done) | (intro v hSw; (try dsimp only at hSw); go_simp; with_reducible rfl))
        (try simp only [List.getElem_toArray, List.getElem_cons_succ, List.getElem_cons_zero, Act.put, List.setIfInBounds_toArray, List.set_cons_zero, List.set_cons_succ])
        refine wpAnyH_take (i := 2) (oi := _) (v := ?_) rfl (by kernel_rfl) (by kernel_rfl) (by kernel_rfl) (fun _ _ _ h => h) (Or.inl ⟨by rfl, ?_⟩) (by assumption) ?_
        rotate_left
        · (first | (intro v hSw; (try dsimp only at hSw); go_simp; done) | (intro v hSw; (try dsimp only at hSw); go_simp; with_reducible rfl))
        (try simp only [List.getElem_toArray, List.getElem_cons_succ, List.getElem_cons_zero, Act.put, List.setIfInBounds_toArray, List.set_cons_zero, List.set_cons_succ])
        refine wpAnyH_take (i := 3) (oi := _) (v := ?_) rfl (by kernel_rfl) (by kernel_rfl) (by kernel_rfl) (fun _ _ _ h => h) (Or.inl ⟨by rfl, ?_⟩) (by assumption) ?_
        rotate_left
        · (first | (intro v hSw; (try dsimp only at hSw); go_simp; done) | (intro v hSw; (try dsimp only at hSw); go_simp; with_reducible rfl))
        (try simp only [List.getElem_toArray, List.getElem_cons_succ, List.getElem_cons_zero, Act.put, List.setIfInBounds_toArray, List.set_cons_zero, List.set_cons_succ])
        refine wpAnyH_take (i := 4) (oi := _) (v := ?_) rfl (by kernel_rfl) (by kernel_rfl) (by kernel_rfl) (fun _ _ _ h => h) (Or.inl ⟨by rfl, ?_⟩) (by assumption) ?_
        rotate_left
        · (first | (intro v hSw; (try dsimp only at hSw); go_simp; done) | (intro v hSw; (try dsimp only at hSw); go_simp; with_reducible rfl))
        (try simp only [List.getElem_toArray, List.getElem_cons_succ, List.getElem_cons_zero, Act.put, List.setIfInBounds_toArray, List.set_cons_zero, List.set_cons_succ])
        refine wpAnyH_take (i := 5) (oi := _) (v := ?_) rfl (by kernel_rfl) (by kernel_rfl) (by kernel_rfl) (fun _ _ _ h => h) (Or.inl ⟨by rfl, ?_⟩) (by assumption) ?_
        rotate_left
        · (first | (intro v hSw; (try dsimp only at hSw); go_simp; done) | (intro v hSw; (try dsimp only at hSw); go_simp; with_reducible rfl))
        (try simp only [List.getElem_toArray, List.getElem_cons_succ, List.getElem_cons_zero, Act.put, List.setIfInBounds_toArray, List.set_cons_zero, List.set_cons_succ])
        refine wpAnyH_take (i := 6) (oi := _) (v := ?_) rfl (by kernel_rfl) (by kernel_rfl) (by kernel_rfl) (fun _ _ _ h => h) (Or.inl ⟨by rfl, ?_⟩) (by assumption) ?_
        rotate_left
        · (first | (intro v hSw; (try dsimp only at hSw); go_simp; done) | (intro v hSw; (try dsimp only at hSw); go_simp; with_reducible rfl))
        (try simp only [List.getElem_toArray, List.getElem_cons_succ, List.getElem_cons_zero, Act.put, List.setIfInBounds_toArray, List.set_cons_zero, List.set_cons_succ])
        refine wpAnyH_done (by kernel_rfl) ?_ _
        refine OnlyN.normal ?_
        gi_wp2
        exact HF.out _
      · have hOb := decide_eq_false hO
        have HR2 := HR.out
        rw [if_neg hO] at HR2
        cases hlo : y.2.lost with
        | true =>
          rw [hlo, if_pos rfl] at HR2
          rw [hlo] at d6
          have HF := Lib.hid (HRN.out C V.drew rd ⟨v, acc, t, HT.out, HR2, HLF2.out, HLV.out, HC5.out, by have := HLEN.out; rw [List.length_append]; omega⟩)
          clear HR2 hO hlo
          gi_wp2
          refine wpIn_region_inR (S := (fun w' => w'.cell? ⟨b, 3, none⟩ = some (.int .i64 y.2.order) ∧ w'.cell? ⟨bX, 0, none⟩ = some (.pointer (some ⟨X, 0, none⟩)) ∧ w'.cell? ⟨X, 2, none⟩ = some (.int .i64 x.order))) hMO (by kernel_rfl) ?_
          refine wpAnyH_take (i := 0) (oi := _) (v := ?_) rfl (by kernel_rfl) (by kernel_rfl) (by kernel_rfl) (fun _ _ _ h => h) (Or.inl ⟨by rfl, ?_⟩) (by assumption) ?_
          rotate_left
          · (first | (intro v hSw; (try dsimp only at hSw); go_simp; done) | (intro v hSw; (try dsimp only at hSw); go_simp; with_reducible rfl))
          (try simp only [List.getElem_toArray, List.getElem_cons_succ, List.getElem_cons_zero, Act.put, List.setIfInBounds_toArray, List.set_cons_zero, List.set_cons_succ])
          refine wpAnyH_take (i := 1) (oi := _) (v := ?_) rfl (by kernel_rfl) (by kernel_rfl) (by kernel_rfl) (fun _ _ _ h => h) (Or.inl ⟨by rfl, ?_⟩) (by assumption) ?_
          rotate_left
          · (first | (intro v hSw; (try dsimp only at hSw); go_simp; done) | (intro v hSw; (try dsimp only at hSw); go_simp; with_reducible rfl))
          (try simp only [List.getElem_toArray, List.getElem_cons_succ, List.getElem_cons_zero, Act.put, List.setIfInBounds_toArray, List.set_cons_zero, List.set_cons_succ])
          refine wpAnyH_take (i := 2) (oi := _) (v := ?_) rfl (by kernel_rfl) (by kernel_rfl) (by kernel_rfl) (fun _ _ _ h => h) (Or.inl ⟨by rfl, ?_⟩) (by assumption) ?_
          rotate_left
          · (first | (intro v hSw; (try dsimp only at hSw); go_simp; done) | (intro v hSw; (try dsimp only at hSw); go_simp; with_reducible rfl))
          (try simp only [List.getElem_toArray, List.getElem_cons_succ, List.getElem_cons_zero, Act.put, List.setIfInBounds_toArray, List.set_cons_zero, List.set_cons_succ])
          refine wpAnyH_take (i := 3) (oi := _) (v := ?_) rfl (by kernel_rfl) (by kernel_rfl) (by kernel_rfl) (fun _ _ _ h => h) (Or.inl ⟨by rfl, ?_⟩) (by assumption) ?_
          rotate_left
          · (first | (intro v hSw; (try dsimp only at hSw); go_simp; done) | (intro v hSw; (try dsimp only at hSw); go_simp; with_reducible rfl))
          (try simp only [List.getElem_toArray, List.getElem_cons_succ, List.getElem_cons_zero, Act.put, List.setIfInBounds_toArray, List.set_cons_zero, List.set_cons_succ])
          refine wpAnyH_take (i := 4) (oi := _) (v := ?_) rfl (by kernel_rfl) (by kernel_rfl) (by kernel_rfl) (fun _ _ _ h => h) (Or.inl ⟨by rfl, ?_⟩) (by assumption) ?_
          rotate_left
          · (first | (intro v hSw; (try dsimp only at hSw); go_simp; done) | (intro v hSw; (try dsimp only at hSw); go_simp; with_reducible rfl))
          (try simp only [List.getElem_toArray, List.getElem_cons_succ, List.getElem_cons_zero, Act.put, List.setIfInBounds_toArray, List.set_cons_zero, List.set_cons_succ])
          refine wpAnyH_take (i := 5) (oi := _) (v := ?_) rfl (by kernel_rfl) (by kernel_rfl) (by kernel_rfl) (fun _ _ _ h => h) (Or.inl ⟨by rfl, ?_⟩) (by assumption) ?_
          rotate_left
          · (first | (intro v hSw; (try dsimp only at hSw); go_simp; done) | (intro v hSw; (try dsimp only at hSw); go_simp; with_reducible rfl))
          (try simp only [List.getElem_toArray, List.getElem_cons_succ, List.getElem_cons_zero, Act.put, List.setIfInBounds_toArray, List.set_cons_zero, List.set_cons_succ])
          refine wpAnyH_take (i := 6) (oi := _) (v := ?_) rfl (by kernel_rfl) (by kernel_rfl) (by kernel_rfl) (fun _ _ _ h => h) (Or.inl ⟨by rfl, ?_⟩) (by assumption) ?_
          rotate_left
          · (first | (intro v hSw; (try dsimp only at hSw); go_simp; done) | (intro v hSw; (try dsimp only at hSw); go_simp; with_reducible rfl))
          (try simp only [List.getElem_toArray, List.getElem_cons_succ, List.getElem_cons_zero, Act.put, List.setIfInBounds_toArray, List.set_cons_zero, List.set_cons_succ])
          refine wpAnyH_done (by kernel_rfl) ?_ _
          refine OnlyN.normal ?_
          gi_wp2
          exact HF.out _
        | false =>
          rw [hlo, if_neg (by simp)] at HR2
          rw [hlo] at d6
          have HTS := Lib.hid (fun W => tog_any (a := y.2.sent) (b := al) hys.1 hal2.1 (by omega) W)
          by_cases hn : now ≤ y.2.sent + al
          · obtain ⟨va, vc, hv⟩ := own_form HLV.out.own
            subst hv
            have hnb := decide_eq_true hn
            rw [if_pos hn] at HR2
            have HT1 := Lib.hid (fun W => tog_any (a := y.2.sent + al) (b := 1) (by omega) (by omega) (by omega) W)
            have lf2 := HLF2.out.steps (rng.Steps.drew (fun _ => True) V.drew) (fun _ _ => trivial) (fun _ _ => trivial)
            have lv2 := HLV.out.steps (n := 0) (rng.Steps.drew _ V.drew)
            obtain ⟨p8, p9, p10, pO, pB, pK⟩ := late_put lf2 lv2 (by omega) (by omega) (by omega) ⟨by omega, by omega, by omega⟩ (y.2.sent + al + 1) true
            have HF := Lib.hid (HRX.out C _ (rd.trans ((Round.of_below (Below.refl _ _).drew C).trans (Round.of_kept pK (fun k hk => by simp at hk; rcases hk with rfl | rfl | rfl; exact HC5.out.1; exact HC5.out.2.1; exact HC5.out.2.2)))) (.inl ⟨rfl, (.slice va acc.length vc), HC5.out.1, HC5.out.2.1, HC5.out.2.2, p8, by rw [← HR2]; exact p9, by rw [← HR2]; exact p10, by rw [← HR2]; exact pO, fun k hk => (HLV.out.row k hk).1, pB⟩))
            have z11 : V.drew.drew.cell? ⟨(bX + 6), 0, none⟩ = some (.slice va acc.length vc) := cofr lv2.box 0 _ rfl
            have HS1 := Lib.hid ((kset V.drew.drew (bX + 1 + 1) 0 (.slice va acc.length vc)).cell (p := ⟨bX + 6, 0, none⟩) (by simp) z11)
            have HS2 := Lib.hid ((kset (V.drew.drew.setCell ⟨bX + 1 + 1, 0, none⟩ (.slice va acc.length vc)) (bX + 1 + 1 + 1) 0 (.int .i64 (y.2.sent + al + 1))).cell (p := ⟨bX + 6, 0, none⟩) (by simp) HS1.out)
            have HS3 := Lib.hid ((kset ((V.drew.drew.setCell ⟨bX + 1 + 1, 0, none⟩ (.slice va acc.length vc)).setCell ⟨bX + 1 + 1 + 1, 0, none⟩ (.int .i64 (y.2.sent + al + 1))) (bX + 1 + 1 + 1 + 1) 0 (.bool true)).cell (p := ⟨bX + 6, 0, none⟩) (by simp) HS2.out)
            have q8 : V.drew.drew.cell? ⟨bX + 1 + 1, 0, none⟩ = some (.slice none 0 0) := cofr lf2.e8 0 _ rfl
            have q9 : V.drew.drew.cell? ⟨bX + 1 + 1 + 1, 0, none⟩ = some (.int .i64 0) := cofr lf2.e9 0 _ rfl
            have q10 : V.drew.drew.cell? ⟨bX + 1 + 1 + 1 + 1, 0, none⟩ = some (.bool false) := cofr lf2.e10 0 _ rfl
            have u8 := fofr lf2.e8 0; have u9 := fofr lf2.e9 0; have u10 := fofr lf2.e10 0
            have q8v : V.cell? ⟨bX + 1 + 1, 0, none⟩ = some (.slice none 0 0) := q8
            have q9v : V.cell? ⟨bX + 1 + 1 + 1, 0, none⟩ = some (.int .i64 0) := q9
            have q10v : V.cell? ⟨bX + 1 + 1 + 1 + 1, 0, none⟩ = some (.bool false) := q10
            have u8v : V.frozen? ⟨bX + 1 + 1, 0, none⟩ = false := u8
            have u9v : V.frozen? ⟨bX + 1 + 1 + 1, 0, none⟩ = false := u9
            have u10v : V.frozen? ⟨bX + 1 + 1 + 1 + 1, 0, none⟩ = false := u10
            clear HR2 hO hlo hn p8 p9 p10 pO pB pK lf2 lv2
            gi_wp2
            refine wpIn_region_inR (S := (fun w' => w'.cell? ⟨b, 3, none⟩ = some (.int .i64 y.2.order) ∧ w'.cell? ⟨bX, 0, none⟩ = some (.pointer (some ⟨X, 0, none⟩)) ∧ w'.cell? ⟨X, 2, none⟩ = some (.int .i64 x.order))) hMO (by kernel_rfl) ?_
            refine wpAnyH_take (i := 0) (oi := _) (v := ?_) rfl (by kernel_rfl) (by kernel_rfl) (by kernel_rfl) (fun _ _ _ h => h) (Or.inl ⟨by rfl, ?_⟩) (by assumption) ?_
            rotate_left
            · (first | (intro v hSw; (try dsimp only at hSw); go_simp; done) | (intro v hSw; (try dsimp only at hSw); go_simp; with_reducible rfl))
            (try simp only [List.getElem_toArray, List.getElem_cons_succ, List.getElem_cons_zero, Act.put, List.setIfInBounds_toArray, List.set_cons_zero, List.set_cons_succ])
            refine wpAnyH_take (i := 1) (oi := _) (v := ?_) rfl (by kernel_rfl) (by kernel_rfl) (by kernel_rfl) (fun _ _ _ h => h) (Or.inl ⟨by rfl, ?_⟩) (by assumption) ?_
            rotate_left
            · (first | (intro v hSw; (try dsimp only at hSw); go_simp; done) | (intro v hSw; (try dsimp only at hSw); go_simp; with_reducible rfl))
            (try simp only [List.getElem_toArray, List.getElem_cons_succ, List.getElem_cons_zero, Act.put, List.setIfInBounds_toArray, List.set_cons_zero, List.set_cons_succ])
            refine wpAnyH_take (i := 2) (oi := _) (v := ?_) rfl (by kernel_rfl) (by kernel_rfl) (by kernel_rfl) (fun _ _ _ h => h) (Or.inl ⟨by rfl, ?_⟩) (by assumption) ?_
            rotate_left
            · (first | (intro v hSw; (try dsimp only at hSw); go_simp; done) | (intro v hSw; (try dsimp only at hSw); go_simp; with_reducible rfl))
            (try simp only [List.getElem_toArray, List.getElem_cons_succ, List.getElem_cons_zero, Act.put, List.setIfInBounds_toArray, List.set_cons_zero, List.set_cons_succ])
            refine wpAnyH_take (i := 3) (oi := _) (v := ?_) rfl (by kernel_rfl) (by kernel_rfl) (by kernel_rfl) (fun _ _ _ h => h) (Or.inl ⟨by rfl, ?_⟩) (by assumption) ?_
            rotate_left
            · (first | (intro v hSw; (try dsimp only at hSw); go_simp; done) | (intro v hSw; (try dsimp only at hSw); go_simp; with_reducible rfl))
            (try simp only [List.getElem_toArray, List.getElem_cons_succ, List.getElem_cons_zero, Act.put, List.setIfInBounds_toArray, List.set_cons_zero, List.set_cons_succ])
            refine wpAnyH_take (i := 4) (oi := _) (v := ?_) rfl (by kernel_rfl) (by kernel_rfl) (by kernel_rfl) (fun _ _ _ h => h) (Or.inl ⟨by rfl, ?_⟩) (by assumption) ?_
            rotate_left
            · (first | (intro v hSw; (try dsimp only at hSw); go_simp; done) | (intro v hSw; (try dsimp only at hSw); go_simp; with_reducible rfl))
            (try simp only [List.getElem_toArray, List.getElem_cons_succ, List.getElem_cons_zero, Act.put, List.setIfInBounds_toArray, List.set_cons_zero, List.set_cons_succ])
            refine wpAnyH_take (i := 5) (oi := _) (v := ?_) rfl (by kernel_rfl) (by kernel_rfl) (by kernel_rfl) (fun _ _ _ h => h) (Or.inl ⟨by rfl, ?_⟩) (by assumption) ?_
            rotate_left
            · (first | (intro v hSw; (try dsimp only at hSw); go_simp; done) | (intro v hSw; (try dsimp only at hSw); go_simp; with_reducible rfl))
            (try simp only [List.getElem_toArray, List.getElem_cons_succ, List.getElem_cons_zero, Act.put, List.setIfInBounds_toArray, List.set_cons_zero, List.set_cons_succ])
            refine wpAnyH_take (i := 6) (oi := _) (v := ?_) rfl (by kernel_rfl) (by kernel_rfl) (by kernel_rfl) (fun _ _ _ h => h) (Or.inl ⟨by rfl, ?_⟩) (by assumption) ?_
            rotate_left
            · (first | (intro v hSw; (try dsimp only at hSw); go_simp; done) | (intro v hSw; (try dsimp only at hSw); go_simp; with_reducible rfl))
            (try simp only [List.getElem_toArray, List.getElem_cons_succ, List.getElem_cons_zero, Act.put, List.setIfInBounds_toArray, List.set_cons_zero, List.set_cons_succ])
            refine wpAnyH_done (by kernel_rfl) ?_ _
            refine OnlyN.normal ?_
            gi_wp2
            refine ⟨trivial, ?_⟩
            refine (callsIn_wide.2 (HTS.out _)).mono ?_
            rintro e v1 ⟨rfl, rfl⟩
            gi_wp2
            refine wpIn_region_inR (S := (fun w' => w'.cell? ⟨bX + 6, 0, none⟩ = some (.slice va acc.length vc))) hMO (by kernel_rfl) ?_
            refine wpAnyH_take (i := 0) (oi := _) (v := ?_) rfl (by kernel_rfl) (by kernel_rfl) (by kernel_rfl) (fun _ _ _ h => h) (Or.inl ⟨by rfl, ?_⟩) (by assumption) ?_
            rotate_left
            · (first | (intro v hSw; (try dsimp only at hSw); go_simp; done) | (intro v hSw; (try dsimp only at hSw); go_simp; with_reducible rfl))
            (try simp only [List.getElem_toArray, List.getElem_cons_succ, List.getElem_cons_zero, Act.put, List.setIfInBounds_toArray, List.set_cons_zero, List.set_cons_succ])
            refine wpAnyH_take (i := 1) (oi := _) (v := ?_) rfl (by kernel_rfl) (by kernel_rfl) (by kernel_rfl) (fun _ _ _ h => h) (Or.inl ⟨by rfl, ?_⟩) (by assumption) ?_
            rotate_left
            · (first | (intro v hSw; (try dsimp only at hSw); go_simp; done) | (intro v hSw; (try dsimp only at hSw); go_simp; with_reducible rfl))
            (try simp only [List.getElem_toArray, List.getElem_cons_succ, List.getElem_cons_zero, Act.put, List.setIfInBounds_toArray, List.set_cons_zero, List.set_cons_succ])
            refine wpAnyH_ready (rs := [2]) (by kernel_rfl) (by simp) ?_
            refine AllReadyH.cons (o := _) rfl (fun K hK => ?_) AllReadyH.nil
            go_simp
            (with_reducible refine (HT1.out _).mono ?_)
            rintro e v1 ⟨rfl, rfl⟩
            refine hK.out _ _ ?_ (fun hHeld => ?_)
            · ((try dsimp only); first | exact z11 | go_keep)
            clear hK K
            (try simp only [List.getElem_toArray, List.getElem_cons_succ, List.getElem_cons_zero, Act.put, List.setIfInBounds_toArray, List.set_cons_zero, List.set_cons_succ])
            refine wpAnyH_ready (rs := [3]) (by kernel_rfl) (by simp) ?_
            refine AllReadyH.cons (o := _) rfl (fun K hK => ?_) AllReadyH.nil
            go_simp
            refine hK.out _ _ ?_ (fun hHeld => ?_)
            · ((try dsimp only); first | exact HS1.out | go_keep)
            clear hK K
            (try simp only [List.getElem_toArray, List.getElem_cons_succ, List.getElem_cons_zero, Act.put, List.setIfInBounds_toArray, List.set_cons_zero, List.set_cons_succ])
            refine wpAnyH_ready (rs := [4]) (by kernel_rfl) (by simp) ?_
            refine AllReadyH.cons (o := _) rfl (fun K hK => ?_) AllReadyH.nil
            go_simp
            refine hK.out _ _ ?_ (fun hHeld => ?_)
            · ((try dsimp only); first | exact HS2.out | go_keep)
            clear hK K
            (try simp only [List.getElem_toArray, List.getElem_cons_succ, List.getElem_cons_zero, Act.put, List.setIfInBounds_toArray, List.set_cons_zero, List.set_cons_succ])
            refine wpAnyH_ready (rs := [5]) (by kernel_rfl) (by simp) ?_
            refine AllReadyH.cons (o := _) rfl (fun K hK => ?_) AllReadyH.nil
            go_simp
            refine hK.out _ _ ?_ (fun hHeld => ?_)
            · ((try dsimp only); first | exact HS3.out | go_keep)
            clear hK K
            (try simp only [List.getElem_toArray, List.getElem_cons_succ, List.getElem_cons_zero, Act.put, List.setIfInBounds_toArray, List.set_cons_zero, List.set_cons_succ])
            refine wpAnyH_done (by kernel_rfl) ?_ _
            refine OnlyN.normal ?_
            gi_wp2
            exact HF.out _
          · have hnb := decide_eq_false hn
            rw [if_neg hn] at HR2
            obtain ⟨i0, hi, hz0, hz1, hz2⟩ := info_split info_span
            have cB : V.drew.cell? ⟨(bX + 6), 0, none⟩ = some v := cofr HLV.out.box 0 _ rfl
            have hsrc := span_src V.drew (y.2.f, y.2.t)
            have own2 := own_later HLV.out.own (bk.al V.drew (.cells #[.int .i64 y.2.f, .int .i64 y.2.t] 24))
            have d1' := ck (bk.al V.drew (.cells #[.int .i64 y.2.f, .int .i64 y.2.t] 24)) cB
            have hvw := fun k hk => (own_in HLV.out.own (k := k) hk).2
            have HN := Lib.hid (fun (w1 : World) (v' : Value) => late_next (s := (y.2.f, y.2.t)) (w1 := w1) (v' := v') HLF2.out HLV.out HC5.out (by simp; omega) hXlt (by omega) rfl)
            have HV := Lib.hid hvw
            have HO := Lib.hid own2
            have HSRC := Lib.hid hsrc
            have HRR2 := Lib.hid HR2
            clear HR2 hO hlo hn hvw own2 hsrc
            gi_wp2
            refine wpIn_region_inR (S := (fun w' => w'.cell? ⟨b, 3, none⟩ = some (.int .i64 y.2.order) ∧ w'.cell? ⟨bX, 0, none⟩ = some (.pointer (some ⟨X, 0, none⟩)) ∧ w'.cell? ⟨X, 2, none⟩ = some (.int .i64 x.order))) hMO (by kernel_rfl) ?_
            refine wpAnyH_take (i := 0) (oi := _) (v := ?_) rfl (by kernel_rfl) (by kernel_rfl) (by kernel_rfl) (fun _ _ _ h => h) (Or.inl ⟨by rfl, ?_⟩) (by assumption) ?_
            rotate_left
            · (first | (intro v hSw; (try dsimp only at hSw); go_simp; done) | (intro v hSw; (try dsimp only at hSw); go_simp; with_reducible rfl))
            (try simp only [List.getElem_toArray, List.getElem_cons_succ, List.getElem_cons_zero, Act.put, List.setIfInBounds_toArray, List.set_cons_zero, List.set_cons_succ])
            refine wpAnyH_take (i := 1) (oi := _) (v := ?_) rfl (by kernel_rfl) (by kernel_rfl) (by kernel_rfl) (fun _ _ _ h => h) (Or.inl ⟨by rfl, ?_⟩) (by assumption) ?_
            rotate_left
            · (first | (intro v hSw; (try dsimp only at hSw); go_simp; done) | (intro v hSw; (try dsimp only at hSw); go_simp; with_reducible rfl))
            (try simp only [List.getElem_toArray, List.getElem_cons_succ, List.getElem_cons_zero, Act.put, List.setIfInBounds_toArray, List.set_cons_zero, List.set_cons_succ])
            refine wpAnyH_take (i := 2) (oi := _) (v := ?_) rfl (by kernel_rfl) (by kernel_rfl) (by kernel_rfl) (fun _ _ _ h => h) (Or.inl ⟨by rfl, ?_⟩) (by assumption) ?_
            rotate_left
            · (first | (intro v hSw; (try dsimp only at hSw); go_simp; done) | (intro v hSw; (try dsimp only at hSw); go_simp; with_reducible rfl))
            (try simp only [List.getElem_toArray, List.getElem_cons_succ, List.getElem_cons_zero, Act.put, List.setIfInBounds_toArray, List.set_cons_zero, List.set_cons_succ])
            refine wpAnyH_take (i := 3) (oi := _) (v := ?_) rfl (by kernel_rfl) (by kernel_rfl) (by kernel_rfl) (fun _ _ _ h => h) (Or.inl ⟨by rfl, ?_⟩) (by assumption) ?_
            rotate_left
            · (first | (intro v hSw; (try dsimp only at hSw); go_simp; done) | (intro v hSw; (try dsimp only at hSw); go_simp; with_reducible rfl))
            (try simp only [List.getElem_toArray, List.getElem_cons_succ, List.getElem_cons_zero, Act.put, List.setIfInBounds_toArray, List.set_cons_zero, List.set_cons_succ])
            refine wpAnyH_take (i := 4) (oi := _) (v := ?_) rfl (by kernel_rfl) (by kernel_rfl) (by kernel_rfl) (fun _ _ _ h => h) (Or.inl ⟨by rfl, ?_⟩) (by assumption) ?_
            rotate_left
            · (first | (intro v hSw; (try dsimp only at hSw); go_simp; done) | (intro v hSw; (try dsimp only at hSw); go_simp; with_reducible rfl))
            (try simp only [List.getElem_toArray, List.getElem_cons_succ, List.getElem_cons_zero, Act.put, List.setIfInBounds_toArray, List.set_cons_zero, List.set_cons_succ])
            refine wpAnyH_take (i := 5) (oi := _) (v := ?_) rfl (by kernel_rfl) (by kernel_rfl) (by kernel_rfl) (fun _ _ _ h => h) (Or.inl ⟨by rfl, ?_⟩) (by assumption) ?_
            rotate_left
            · (first | (intro v hSw; (try dsimp only at hSw); go_simp; done) | (intro v hSw; (try dsimp only at hSw); go_simp; with_reducible rfl))
            (try simp only [List.getElem_toArray, List.getElem_cons_succ, List.getElem_cons_zero, Act.put, List.setIfInBounds_toArray, List.set_cons_zero, List.set_cons_succ])
            refine wpAnyH_take (i := 6) (oi := _) (v := ?_) rfl (by kernel_rfl) (by kernel_rfl) (by kernel_rfl) (fun _ _ _ h => h) (Or.inl ⟨by rfl, ?_⟩) (by assumption) ?_
            rotate_left
            · (first | (intro v hSw; (try dsimp only at hSw); go_simp; done) | (intro v hSw; (try dsimp only at hSw); go_simp; with_reducible rfl))
            (try simp only [List.getElem_toArray, List.getElem_cons_succ, List.getElem_cons_zero, Act.put, List.setIfInBounds_toArray, List.set_cons_zero, List.set_cons_succ])
            refine wpAnyH_done (by kernel_rfl) ?_ _
            refine OnlyN.normal ?_
            gi_wp2
            refine ⟨trivial, ?_⟩
            refine (callsIn_wide.2 (HTS.out _)).mono ?_
            rintro e v1 ⟨rfl, rfl⟩
            gi_wp2_with (gi_at_builtin; refine wpListIn_append_sz _ rfl (.tmp 46) (.tmp 49) 61 61 rfl w.heap.size 24 i0 (.agg #[.int .i64 0, .int .i64 0]) 2 16 Try.underlying61 hi hz0 hz1 (by decide) hz2 rfl v acc.length (spCells acc) rfl HO.out _ rfl 1 [.int .i64 y.2.f, .int .i64 y.2.t] HSRC.out (by unfold maxLen; omega) (by omega) (by simp; omega) ?_)
            intro a' cap' w1 ho1 hg1 hw1
            obtain ⟨C', hr', lf', lv', hc'⟩ := HN.out w1 _ ho1 hg1 (by simpa using hw1) HV.out
            have HF := Lib.hid (HRN.out C' _ (rd.trans hr') ⟨_, _, t, HT.out, HRR2.out, lf', lv', hc', by have := HLEN.out; rw [List.length_append, List.length_append]; simp; omega⟩)
            have hB1 : w1.heap[(bX + 6)]? = some (.cells #[v] 61 (0, 0)) := (hg1.block _ (by have := lt_of_block HLV.out.box; simp; omega) (fun e => (HLV.out.row _ e.symm).2.2 rfl)).trans (((bk.al V.drew (.cells #[.int .i64 y.2.f, .int .i64 y.2.t] 24)).block _ (lt_of_block HLV.out.box)).trans HLV.out.box)
            have g0 := cofr hB1 0 _ rfl
            have g1 := fofr hB1 0
            clear hB1 ho1 hg1 hw1 hr' lf' lv' hc' HN HV HO HSRC HRR2 cB d1'
            gi_wp2
            exact HF.out _
    case done =>
      rintro D C V hD hCD ⟨v, acc, rest, h1, h2, lf, lv, h5, h6⟩ hK
      have hr : rest = [] := by
        have : L ++ rest = L ++ [] := by rw [h1]; simp
        exact List.append_cancel_left this
      subst hr
      have HR := Lib.hid (show lt1 x.order al now L [] = (acc, 0, false) from h2.symm)
      clear h1 h2
      obtain ⟨va, vc, hv⟩ := own_form lv.own
      subst hv
      have cB := cofr lv.box 0 _ rfl
      have q8 : V.cell? ⟨bX + 1 + 1, 0, none⟩ = some (.slice none 0 0) := cofr lf.e8 0 _ rfl
      have q9 : V.cell? ⟨bX + 1 + 1 + 1, 0, none⟩ = some (.int .i64 0) := cofr lf.e9 0 _ rfl
      have q10 : V.cell? ⟨bX + 1 + 1 + 1 + 1, 0, none⟩ = some (.bool false) := cofr lf.e10 0 _ rfl
      have u8 := fofr lf.e8 0; have u9 := fofr lf.e9 0; have u10 := fofr lf.e10 0
      obtain ⟨p8, p9, p10, pO, pB, pK⟩ := late_put lf lv (by omega) (by omega) (by omega) ⟨by omega, by omega, by omega⟩ 0 false
      have hKY := Lib.hid (pK.heap (by simp; omega) hK)
      have HFI := Lib.hid (late_fin (D := D) p8 p9 p10 pO pB (fun k hk => by simp at hk; omega) (fun k hk e => hCD (e ▸ (lv.row k hk).1)) (by omega))
      clear p8 p9 p10 pO pB pK lf lv HSEQ hK
      gi_wp2
      refine ⟨by simp, .inl ⟨_, _, rfl, run_takeDeferred hKY.out, ?_⟩⟩
      obtain ⟨c8, c9, c10, cO, cB⟩ := HFI.out
      exact ⟨.tuple #[(.slice va acc.length vc), .int .i64 0, .bool false], by simp [results, Try.results20, go_sem, c8, c9, c10], by rw [HR.out]; exact ⟨_, rfl, cO, cB⟩⟩
    case stop =>
      rintro D c pre C V hD hCD hx hK
      rcases hx with ⟨rfl, v, e1, e2, e3, p8, p9, p10, pO, pv, pB⟩ | ⟨rfl, v, acc, hR, lf, lv, h5⟩
      · have hKY := Lib.hid hK
        have HFI := Lib.hid (late_fin (D := D) p8 p9 p10 pO pB (fun k hk e => hCD (by simp at hk; rcases hk with rfl | rfl | rfl; exact e ▸ e1; exact e ▸ e2; exact e ▸ e3)) (fun k hk e => hCD (e ▸ pv k hk)) (by omega))
        clear p8 p9 p10 pO pB pv hK HSEQ
        generalize lt1 x.order al now L [] = RR at *
        gi_wp2
        refine ⟨by simp, .inl ⟨_, _, rfl, run_takeDeferred hKY.out, ?_⟩⟩
        obtain ⟨c8, c9, c10, cO, cB⟩ := HFI.out
        exact ⟨.tuple #[v, .int .i64 RR.2.1, .bool RR.2.2], by simp [results, Try.results20, go_sem, c8, c9, c10], ⟨_, rfl, cO, cB⟩⟩
      · have HR := Lib.hid hR
        clear hR
        obtain ⟨va, vc, hv⟩ := own_form lv.own
        subst hv
        have cB := cofr lv.box 0 _ rfl
        have q8 : V.cell? ⟨bX + 1 + 1, 0, none⟩ = some (.slice none 0 0) := cofr lf.e8 0 _ rfl
        have q9 : V.cell? ⟨bX + 1 + 1 + 1, 0, none⟩ = some (.int .i64 0) := cofr lf.e9 0 _ rfl
        have q10 : V.cell? ⟨bX + 1 + 1 + 1 + 1, 0, none⟩ = some (.bool false) := cofr lf.e10 0 _ rfl
        have u8 := fofr lf.e8 0; have u9 := fofr lf.e9 0; have u10 := fofr lf.e10 0
        obtain ⟨p8, p9, p10, pO, pB, pK⟩ := late_put lf lv (by omega) (by omega) (by omega) ⟨by omega, by omega, by omega⟩ 0 false
        have hKY := Lib.hid (pK.heap (by simp; omega) hK)
        have HFI := Lib.hid (late_fin (D := D) p8 p9 p10 pO pB (fun k hk => by simp at hk; omega) (fun k hk e => hCD (e ▸ (lv.row k hk).1)) (by omega))
        clear p8 p9 p10 pO pB pK lf lv HSEQ hK
        gi_wp2
        refine ⟨by simp, .inl ⟨_, _, rfl, run_takeDeferred hKY.out, ?_⟩⟩
        obtain ⟨c8, c9, c10, cO, cB⟩ := HFI.out
        exact ⟨.tuple #[(.slice va acc.length vc), .int .i64 0, .bool false], by simp [results, Try.results20, go_sem, c8, c9, c10], by rw [HR.out]; exact ⟨_, rfl, cO, cB⟩⟩)
  refine wpIn_region_in (S := (fun w' => w'.cell? ⟨bX, 0, none⟩ = some (.pointer (some ⟨X, 0, none⟩)) ∧ w'.cell? ⟨X, 1, none⟩ = some (.int .i64 x.rtt))) hMO ?_
  refine wpAnyH_take (i := 0) (oi := _) (v := ?_) rfl (by kernel_rfl) (by kernel_rfl) (by kernel_rfl) (fun _ _ _ h => h) (Or.inl ⟨by rfl, ?_⟩) (by assumption) ?_
  rotate_left
  · (first | (intro v hSw; (try dsimp only at hSw); go_simp; done) | (intro v hSw; (try dsimp only at hSw); go_simp; with_reducible rfl))
  (try simp only [List.getElem_toArray, List.getElem_cons_succ, List.getElem_cons_zero, Act.put, List.setIfInBounds_toArray, List.set_cons_zero, List.set_cons_succ])
  refine wpAnyH_take (i := 1) (oi := _) (v := ?_) rfl (by kernel_rfl) (by kernel_rfl) (by kernel_rfl) (fun _ _ _ h => h) (Or.inl ⟨by rfl, ?_⟩) (by assumption) ?_
  rotate_left
  · (first | (intro v hSw; (try dsimp only at hSw); go_simp; done) | (intro v hSw; (try dsimp only at hSw); go_simp; with_reducible rfl))
  (try simp only [List.getElem_toArray, List.getElem_cons_succ, List.getElem_cons_zero, Act.put, List.setIfInBounds_toArray, List.set_cons_zero, List.set_cons_succ])
  refine wpAnyH_take (i := 2) (oi := _) (v := ?_) rfl (by kernel_rfl) (by kernel_rfl) (by kernel_rfl) (fun _ _ _ h => h) (Or.inl ⟨by rfl, ?_⟩) (by assumption) ?_
  rotate_left
  · (first | (intro v hSw; (try dsimp only at hSw); go_simp; done) | (intro v hSw; (try dsimp only at hSw); go_simp; with_reducible rfl))
  (try simp only [List.getElem_toArray, List.getElem_cons_succ, List.getElem_cons_zero, Act.put, List.setIfInBounds_toArray, List.set_cons_zero, List.set_cons_succ])
  refine wpAnyH_take (i := 3) (oi := _) (v := ?_) rfl (by kernel_rfl) (by kernel_rfl) (by kernel_rfl) (fun _ _ _ h => h) (Or.inl ⟨by rfl, ?_⟩) (by assumption) ?_
  rotate_left
  · (first | (intro v hSw; (try dsimp only at hSw); go_simp; done) | (intro v hSw; (try dsimp only at hSw); go_simp; with_reducible rfl))
  (try simp only [List.getElem_toArray, List.getElem_cons_succ, List.getElem_cons_zero, Act.put, List.setIfInBounds_toArray, List.set_cons_zero, List.set_cons_succ])
  refine wpAnyH_take (i := 4) (oi := _) (v := ?_) rfl (by kernel_rfl) (by kernel_rfl) (by kernel_rfl) (fun _ _ _ h => h) (Or.inl ⟨by rfl, ?_⟩) (by assumption) ?_
  rotate_left
  · (first | (intro v hSw; (try dsimp only at hSw); go_simp; done) | (intro v hSw; (try dsimp only at hSw); go_simp; with_reducible rfl))
  (try simp only [List.getElem_toArray, List.getElem_cons_succ, List.getElem_cons_zero, Act.put, List.setIfInBounds_toArray, List.set_cons_zero, List.set_cons_succ])
  refine wpAnyH_ready (rs := [5, 7]) (by kernel_rfl) (by simp) ?_
  refine AllReadyH.cons (o := _) rfl (fun K hK => ?_) ?_
  · go_simp
    (with_reducible refine (hold_eq window _).mono ?_)
    rintro e v1 ⟨rfl, rfl⟩
    refine hK.out _ _ ?_ (fun hHeld => ?_)
    · ((try dsimp only); first | exact z3 | exact HKA.out | exact HKB.out | go_keep)
    clear hK K
    (try simp only [List.getElem_toArray, List.getElem_cons_succ, List.getElem_cons_zero, Act.put, List.setIfInBounds_toArray, List.set_cons_zero, List.set_cons_succ])
    refine wpAnyH_ready (rs := [6, 7]) (by kernel_rfl) (by simp) ?_
    refine AllReadyH.cons (o := _) rfl (fun K hK => ?_) ?_
    · go_simp
      (with_reducible refine (HTG.out _).mono ?_)
      rintro e v1 ⟨rfl, rfl⟩
      refine hK.out _ _ ?_ (fun hHeld => ?_)
      · ((try dsimp only); first | exact z3 | exact HKA.out | exact HKB.out | go_keep)
      clear hK K
      (try simp only [List.getElem_toArray, List.getElem_cons_succ, List.getElem_cons_zero, Act.put, List.setIfInBounds_toArray, List.set_cons_zero, List.set_cons_succ])
      refine wpAnyH_ready (rs := [7]) (by kernel_rfl) (by simp) ?_
      refine AllReadyH.cons (o := _) rfl (fun K hK => ?_) AllReadyH.nil
      go_simp
      refine hK.out _ _ ?_ (fun hHeld => ?_)
      · ((try dsimp only); first | exact z3 | exact HKA.out | exact HKB.out | go_keep)
      clear hK K
      (try simp only [List.getElem_toArray, List.getElem_cons_succ, List.getElem_cons_zero, Act.put, List.setIfInBounds_toArray, List.set_cons_zero, List.set_cons_succ])
      refine wpAnyH_ready (rs := [8]) (by kernel_rfl) (by simp) ?_
      refine AllReadyH.cons (o := _) rfl (fun K hK => ?_) AllReadyH.nil
      go_simp
      refine hK.out _ _ ?_ (fun hHeld => ?_)
      · ((try dsimp only); first | exact z3 | exact HKA.out | exact HKB.out | go_keep)
      clear hK K
      (try simp only [List.getElem_toArray, List.getElem_cons_succ, List.getElem_cons_zero, Act.put, List.setIfInBounds_toArray, List.set_cons_zero, List.set_cons_succ])
      refine wpAnyH_done (by kernel_rfl) ?_ _
      refine OnlyN.normal ?_
      exact HREST.out
    refine AllReadyH.cons (o := _) rfl (fun K hK => ?_) AllReadyH.nil
    go_simp
    refine hK.out _ _ ?_ (fun hHeld => ?_)
    · ((try dsimp only); first | exact z3 | exact HKA.out | exact HKB.out | go_keep)
    clear hK K
    (try simp only [List.getElem_toArray, List.getElem_cons_succ, List.getElem_cons_zero, Act.put, List.setIfInBounds_toArray, List.set_cons_zero, List.set_cons_succ])
    refine wpAnyH_ready (rs := [6]) (by kernel_rfl) (by simp) ?_
    refine AllReadyH.cons (o := _) rfl (fun K hK => ?_) AllReadyH.nil
    go_simp
    (with_reducible refine (HTG.out _).mono ?_)
    rintro e v1 ⟨rfl, rfl⟩
    refine hK.out _ _ ?_ (fun hHeld => ?_)
    · ((try dsimp only); first | exact z3 | exact HKA.out | exact HKB.out | go_keep)
    clear hK K
    (try simp only [List.getElem_toArray, List.getElem_cons_succ, List.getElem_cons_zero, Act.put, List.setIfInBounds_toArray, List.set_cons_zero, List.set_cons_succ])
    refine wpAnyH_ready (rs := [8]) (by kernel_rfl) (by simp) ?_
    refine AllReadyH.cons (o := _) rfl (fun K hK => ?_) AllReadyH.nil
    go_simp
    refine hK.out _ _ ?_ (fun hHeld => ?_)
    · ((try dsimp only); first | exact z3 | exact HKA.out | exact HKB.out | go_keep)
    clear hK K
    (try simp only [List.getElem_toArray, List.getElem_cons_succ, List.getElem_cons_zero, Act.put, List.setIfInBounds_toArray, List.set_cons_zero, List.set_cons_succ])
    refine wpAnyH_done (by kernel_rfl) ?_ _
    refine OnlyN.normal ?_
    exact HREST.out
  refine AllReadyH.cons (o := _) rfl (fun K hK => ?_) AllReadyH.nil
  go_simp
  refine hK.out _ _ ?_ (fun hHeld => ?_)
  · ((try dsimp only); first | exact z3 | exact HKA.out | exact HKB.out | go_keep)
  clear hK K
  (try simp only [List.getElem_toArray, List.getElem_cons_succ, List.getElem_cons_zero, Act.put, List.setIfInBounds_toArray, List.set_cons_zero, List.set_cons_succ])
  refine wpAnyH_ready (rs := [5]) (by kernel_rfl) (by simp) ?_
  refine AllReadyH.cons (o := _) rfl (fun K hK => ?_) AllReadyH.nil
  go_simp
  (with_reducible refine (hold_eq window _).mono ?_)
  rintro e v1 ⟨rfl, rfl⟩
  refine hK.out _ _ ?_ (fun hHeld => ?_)
  · ((try dsimp only); first | exact z3 | exact HKA.out | exact HKB.out | go_keep)
  clear hK K
  (try simp only [List.getElem_toArray, List.getElem_cons_succ, List.getElem_cons_zero, Act.put, List.setIfInBounds_toArray, List.set_cons_zero, List.set_cons_succ])
  refine wpAnyH_ready (rs := [6]) (by kernel_rfl) (by simp) ?_
  refine AllReadyH.cons (o := _) rfl (fun K hK => ?_) AllReadyH.nil
  go_simp
  (with_reducible refine (HTG.out _).mono ?_)
  rintro e v1 ⟨rfl, rfl⟩
  refine hK.out _ _ ?_ (fun hHeld => ?_)
  · ((try dsimp only); first | exact z3 | exact HKA.out | exact HKB.out | go_keep)
  clear hK K
  (try simp only [List.getElem_toArray, List.getElem_cons_succ, List.getElem_cons_zero, Act.put, List.setIfInBounds_toArray, List.set_cons_zero, List.set_cons_succ])
  refine wpAnyH_ready (rs := [8]) (by kernel_rfl) (by simp) ?_
  refine AllReadyH.cons (o := _) rfl (fun K hK => ?_) AllReadyH.nil
  go_simp
  refine hK.out _ _ ?_ (fun hHeld => ?_)
  · ((try dsimp only); first | exact z3 | exact HKA.out | exact HKB.out | go_keep)
  clear hK K
  (try simp only [List.getElem_toArray, List.getElem_cons_succ, List.getElem_cons_zero, Act.put, List.setIfInBounds_toArray, List.set_cons_zero, List.set_cons_succ])
  refine wpAnyH_done (by kernel_rfl) ?_ _
  refine OnlyN.normal ?_
  exact HREST.out
end Go.Proofs.Ytpoifoanigpncaa.rk
