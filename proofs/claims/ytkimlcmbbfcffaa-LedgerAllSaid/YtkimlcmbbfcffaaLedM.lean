/-
  Layer 19's law LedgerAll: lists; what lies in memory.
-/
import Derived.Test.YtkimlcmbbfcffaaLedL
namespace Go.Proofs.Ytkimlcmbbfcffaa.lg
open Go.RowKit Go.Shelf aid mem sp rn
attribute [local go_sem ↓] Go.wp_at_zero Go.wp_at_succ
set_option linter.unusedVariables false
set_option linter.unusedSimpArgs false

theorem dup_perm {s : Sp} {l r : List Sp} (h : l.Perm (s :: r)) (hg : ∀ p ∈ l, holdsB s p = true → p = s) (hs : holdsB s s = true) : hasB s l = true ∧ (del s l).Perm r := by
  have hm : s ∈ l := h.mem_iff.2 (by simp)
  have hb : hasB s l = true := by
    cases hb : hasB s l with
    | true => rfl
    | false =>
      have h0 := (plc_parts (fun p => holdsB s p) l).1
      have hlen : ¬ plc (fun p => holdsB s p) l < l.length := of_decide_eq_false hb
      have := h0 s (by rw [List.take_of_length_le (by omega)]; exact hm)
      rw [hs] at this; cases this
  refine ⟨hb, ?_⟩
  have hk : idx s l < l.length := of_decide_eq_true hb
  have h2 := (plc_parts (fun p => holdsB s p) l).2.1 hk
  have hmem : l[idx s l] ∈ l := List.getElem_mem _
  have he : l[idx s l] = s := hg _ hmem (by
    have : l.getD (idx s l) (0, 0) = l[idx s l] := by simp [List.getD, hk]
    rw [← this]; exact h2)
  have hsplit : l = l.take (idx s l) ++ s :: l.drop (idx s l + 1) := by
    conv => lhs; rw [← List.take_append_drop (idx s l) l]
    rw [List.drop_eq_getElem_cons hk, he]
  have hp : (s :: del s l).Perm l := by
    unfold del
    have := (List.perm_middle (a := s) (l₁ := l.take (idx s l)) (l₂ := l.drop (idx s l + 1))).symm
    rw [← hsplit] at this
    exact this
  exact (hp.trans h).cons_inv
def P (d : Nat → Int) (i : Nat) : Sp := (100 * (i : Int), 100 * (i : Int) + 1 + d i)
def lst (d : Nat → Int) (k : Nat) : List Sp := (List.range k).map (P d)
theorem lst_succ (d : Nat → Int) (k : Nat) : lst d (k + 1) = lst d k ++ [P d k] := by unfold lst; rw [List.range_succ, List.map_append]; rfl
theorem lst_len (d : Nat → Int) (k : Nat) : (lst d k).length = k := by simp [lst]
theorem P_fit {d : Nat → Int} (hd : ∀ i, 0 ≤ d i ∧ d i ≤ 99) {i : Nat} (hi : i < 1000) : fitP (P d i).1 (P d i).2 = P d i ∧ lenI (P d i) = 1 + d i := by
  have := hd i
  have h1 : fitP (P d i).1 (P d i).2 = P d i := by
    unfold fitP
    rw [if_pos (by unfold P; unfold mayB; simp; omega)]
  refine ⟨h1, ?_⟩
  unfold lenI
  rw [h1]
  unfold P
  simp only
  omega
theorem P_holds {d : Nat → Int} (hd : ∀ i, 0 ≤ d i ∧ d i ≤ 99) {i j : Nat} (hi : i < 1000) (hj : j < 1000) : holdsB (P d i) (P d j) = decide (i = j) := by
  have di := hd i; have dj := hd j
  obtain ⟨f1, l1⟩ := P_fit hd hi
  obtain ⟨f2, l2⟩ := P_fit hd hj
  unfold holdsB meetP
  rw [f1, f2, l2, decide_eq_false (by omega), Bool.false_or]
  by_cases h : i = j
  · subst h
    rw [decide_eq_true rfl]
    unfold betw P
    rw [if_neg (by simp only; omega)]
    simp
  · rw [decide_eq_false h]
    unfold betw P
    rw [if_pos (by simp only; omega)]
    simp
    omega
theorem lst_mem {d : Nat → Int} {k : Nat} {p : Sp} (h : p ∈ lst d k) : ∃ i, i < k ∧ p = P d i := by
  unfold lst at h
  obtain ⟨i, hi, rfl⟩ := List.mem_map.1 h
  exact ⟨i, List.mem_range.1 hi, rfl⟩
/-- whatever of them is asked, it holds itself alone -/
theorem lst_apart {d : Nat → Int} (hd : ∀ i, 0 ≤ d i ∧ d i ≤ 99) {k : Nat} (hk : k ≤ 256) {s p : Sp} (hs : s ∈ lst d k) (hp : p ∈ lst d k) : (holdsB s p = true → p = s) ∧ holdsB s s = true := by
  obtain ⟨i, hi, rfl⟩ := lst_mem hs
  obtain ⟨j, hj, rfl⟩ := lst_mem hp
  rw [P_holds hd (by omega) (by omega), P_holds hd (by omega) (by omega)]
  exact ⟨fun h => by rw [of_decide_eq_true h], by simp⟩
theorem again_one {x : Ld} {d : Nat → Int} (hd : ∀ i, 0 ≤ d i ∧ d i ≤ 99) {k : Nat} (hk : k < 256) (hl : x.l = lst d k) (ho : x.op = false) : againE x (P d k) = 0 ∧ (againX x (P d k)).l = lst d (k + 1) ∧ (againX x (P d k)).op = false ∧ (againX x (P d k)).sp = x.sp := by
  obtain ⟨f, l⟩ := P_fit hd (i := k) (by omega)
  have := hd k
  have h1 : ¬ lenI (P d k) = 0 := by omega
  have h2 : ¬ 256 ≤ x.l.length := by rw [hl, lst_len]; omega
  unfold againE againX
  rw [if_neg h1, if_neg h2, if_neg h1, if_neg h2]
  exact ⟨rfl, by rw [lst_succ]; simp only; rw [hl], ho, rfl⟩
theorem spCells_set : ∀ (L : List Sp) (i : Nat) (x : Sp), spCells (L.set i x) = ((spCells L).set (i * 2) (.int .i64 x.1)).set (i * 2 + 1) (.int .i64 x.2) := by
  intro L
  induction L with
  | nil => intro i x; simp [spCells]
  | cons y L ih =>
    intro i x
    cases i with
    | zero => rfl
    | succ i =>
      rw [List.set_cons_succ, show spCells (y :: L.set i x) = .int .i64 y.1 :: .int .i64 y.2 :: spCells (L.set i x) from rfl, ih, show spCells (y :: L) = .int .i64 y.1 :: .int .i64 y.2 :: spCells L from rfl, show (i + 1) * 2 = i * 2 + 1 + 1 from by omega, List.set_cons_succ, List.set_cons_succ]
      rfl
/-- a span is written into a row -/
theorem slr_set {w : World} {g off n cap : Nat} {L : List Sp} (h : SlR w 32 2 (some ⟨g, off, none⟩) n cap (spCells L)) {i : Nat} (hi : i < n) (x : Sp) :
    SlR ((w.setCell ⟨g, off + i * 2, none⟩ (.int .i64 x.1)).setCell ⟨g, off + i * 2 + 1, none⟩ (.int .i64 x.2)) 32 2 (some ⟨g, off, none⟩) n cap (spCells (L.set i x)) := by
  have hlen := row_len h
  refine ⟨by rw [spCells_len, List.length_set, hlen], h.le, h.most, fun h0 => ?_⟩
  obtain ⟨g', off', cur, hx, hg, h1, h2⟩ := h.rest h0
  injection hx with hx
  injection hx with hx1 hx2
  subst hx1 hx2
  have g0 := heap_setCell_same w g (off + i * 2) _ _ (.int .i64 x.1) hg
  have g1 := heap_setCell_same _ g (off + i * 2 + 1) _ _ (.int .i64 x.2) g0
  refine ⟨g, off, _, rfl, g1, by simpa using h1, fun j hj => ?_⟩
  rw [spCells_set]
  have hle := h.le
  have hj2 := h2 j hj
  have hsz : off + j < cur.size := by omega
  have hl2 : (spCells L).length = n * 2 := by rw [spCells_len, hlen]
  by_cases c1 : j = i * 2 + 1
  · subst c1
    rw [Array.getElem?_setIfInBounds, if_pos (by omega), if_pos (by simp; omega), List.getElem?_set, if_pos rfl, if_pos (by simp; omega)]
  · rw [Array.getElem?_setIfInBounds, if_neg (by omega), List.getElem?_set, if_neg (by omega)]
    by_cases c0 : j = i * 2
    · subst c0
      rw [Array.getElem?_setIfInBounds, if_pos rfl, if_pos hsz, List.getElem?_set, if_pos rfl, if_pos (by omega)]
    · rw [Array.getElem?_setIfInBounds, if_neg (by omega), List.getElem?_set, if_neg (by omega)]
      exact hj2
theorem LF.turn {w0 w w' V : World} {F F' : Nat → Prop} {B : Nat} {x : Ld} {T : List Nat} (h : LF w0 F V B x w) (hk : Kept T w w') (hT : ∀ b ∈ T, F b ∧ w0.heap.size ≤ b) (hF : ∀ b, F' b → F b ∨ (w.heap.size ≤ b ∧ b < w'.heap.size)) : LF w0 F' w' B x w' := by
  obtain ⟨S, h1, h2, h3, h4, h5, h6⟩ := h
  refine ⟨S, h1.keep hk (fun b hb e => (h4 b hb).2 (hT b e).1), h2, h3.trans (hk.below (fun b hb => (hT b hb).2) h3.size), fun b hb' => ⟨(h4 b hb').1, fun hf => ?_⟩, Nat.le_refl _, fun b hf => ⟨?_, rfl⟩⟩
  · rcases hF b hf with q | q
    · exact (h4 b hb').2 q
    · have := h1.lt b hb'; omega
  · rcases hF b hf with q | q
    · have := (h6 b q).1; have := hk.size; omega
    · exact q.2
theorem LF.row {w0 w V : World} {F : Nat → Prop} {B : Nat} {x : Ld} (h : LF w0 F V B x w) {e : TypeId} {sz : Nat} {a : Option Addr} {n cap : Nat} {xs : List Value} (hr : SlR V e sz a n cap xs) (hF : ∀ b ∈ blk a cap, F b) : SlR w e sz a n cap xs :=
  ⟨hr.len, hr.le, hr.most, fun h0 => by
    obtain ⟨g, off, cur, rfl, hg, h1, h2⟩ := hr.rest h0
    exact ⟨g, off, cur, rfl, h.heap (hF g (by rw [blk_some _ _ _ h0]; simp)) hg, h1, h2⟩⟩
/-- a ledger, and a row of spans beside it -/
structure SS (w : World) (b : Nat) (x : Ld) (a : Option Addr) (n cap : Nat) (L : List Sp) (W : World) : Prop where
  lf : LF w (fun c => c ∈ blk a cap) W b x W
  row : SlR W 32 2 a n cap (spCells L)
  le : ∀ c ∈ blk a cap, w.heap.size ≤ c
section
variable {w W W' : World} {b : Nat} {x x' : Ld} {a : Option Addr} {n cap : Nat} {L : List Sp}
theorem SS.chg (h : SS w b x a n cap L W) (hl : LF w (fun c => c ∈ blk a cap) W b x' W') : SS w b x' a n cap L W' :=
  ⟨hl.ext (Below.refl _ _) (fun _ h => .inl h), hl.row h.row (fun _ h => h), h.le⟩
theorem SS.later (h : SS w b x a n cap L W) (hb : Below W.heap.size W W') : SS w b x a n cap L W' := h.chg (h.lf.later hb)
theorem SS.write (h : SS w b x a n cap L W) {a2 : Option Addr} {n2 cap2 : Nat} {L2 : List Sp} (hk : Kept (blk a cap) W W') (hr : SlR W' 32 2 a2 n2 cap2 (spCells L2)) (hb : ∀ c ∈ blk a2 cap2, c ∈ blk a cap ∨ W.heap.size ≤ c) : SS w b x a2 n2 cap2 L2 W' :=
  ⟨h.lf.turn hk (fun c hc => ⟨hc, h.le c hc⟩) (fun c hc => (hb c hc).imp id (fun q => ⟨q, (hr.lt c hc).1⟩)), hr, fun c hc => by
    rcases hb c hc with q | q
    · exact h.le c q
    · have := h.lf.below.size; omega⟩
theorem again_ss (h : SS w b x a n cap L W) (s : Sp) : Calls Try.prog 14 #[.pointer (some ⟨b, 0, none⟩), spV s] W fun e w' => e = .returned (.int .i64 (againE x s)) ∧ SS w b (againX x s) a n cap L w' :=
  (again_ls h.lf s).mono fun e w' ⟨h1, h2⟩ => ⟨h1, h.chg h2⟩
theorem cut_ss (h : SS w b x a n cap L W) (c t : Int) : Calls Try.prog 16 #[.pointer (some ⟨b, 0, none⟩), .int .i64 c, .int .i64 t] W fun e w' => e = .returned (.bool (!x.op)) ∧ SS w b (cutX x c t) a n cap L w' :=
  (cut_ls h.lf c t).mono fun e w' ⟨h1, h2⟩ => ⟨h1, h.chg h2⟩
theorem dup_ss (h : SS w b x a n cap L W) (s : Sp) : Calls Try.prog 15 #[.pointer (some ⟨b, 0, none⟩), spV s] W fun e w' => e = .returned (.bool (hasB s x.l)) ∧ SS w b (dupX x s) a n cap L w' :=
  (dup_ls h.lf s).mono fun e w' ⟨h1, h2⟩ => ⟨h1, h.chg h2⟩
theorem undo_ss (h : SS w b x a n cap L W) : Calls Try.prog 17 #[.pointer (some ⟨b, 0, none⟩)] W fun e w' => e = .returned (fV x (undoB x)) ∧ SS w b (undoX x) a n cap L w' :=
  (undo_ls h.lf).mono fun e w' ⟨h1, h2⟩ => ⟨h1, h.chg h2⟩
theorem pending_ss (h : SS w b x a n cap L W) : Calls Try.prog 12 #[.pointer (some ⟨b, 0, none⟩)] W fun e w' => e = .returned (.int .i64 x.l.length) ∧ SS w b x a n cap L w' :=
  (pending_ls h.lf).mono fun e w' ⟨h1, h2⟩ => ⟨h1, h.chg h2⟩
theorem known_ss (h : SS w b x a n cap L W) : Calls Try.prog 7 #[] W fun e w' => e = .returned (.bool true) ∧ SS w b x a n cap L w' :=
  (known_ls h.lf).mono fun e w' ⟨h1, h2⟩ => ⟨h1, h.chg h2⟩
end
end Go.Proofs.Ytkimlcmbbfcffaa.lg
