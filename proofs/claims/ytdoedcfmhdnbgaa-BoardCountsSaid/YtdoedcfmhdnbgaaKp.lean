/-
  Slices with room behind them, that lead into a row of one's own anywhere; append onto them. Imports nothing of the program.
-/
import Derived.Test.YtdoedcfmhdnbgaaOwn
namespace Go.Proofs.Ytdoedcfmhdnbgaa.mem
open Go.RowKit aid
set_option linter.unusedVariables false

structure SlR (w : World) (e : TypeId) (sz : Nat) (a : Option Addr) (n cap : Nat) (xs : List Value) : Prop where
  len : xs.length = n * sz
  le : n ≤ cap
  most : cap ≤ maxLen
  rest : 0 < cap → ∃ g off cur, a = some ⟨g, off, none⟩ ∧ w.heap[g]? = some (.cells cur e (0, 0)) ∧ off + cap * sz ≤ cur.size ∧ ∀ j, j < n * sz → cur[off + j]? = xs[j]?
/-- the block that it may write -/
def blk (a : Option Addr) (cap : Nat) : List Nat := if cap = 0 then [] else a.toList.map (·.block)
theorem blk_zero (a : Option Addr) : blk a 0 = [] := rfl
theorem blk_some (g off cap : Nat) (h : 0 < cap) : blk (some ⟨g, off, none⟩) cap = [g] := by unfold blk; rw [if_neg (by omega)]; rfl
theorem SlR.nil (w : World) (e : TypeId) (sz : Nat) : SlR w e sz none 0 0 [] := ⟨by simp, Nat.le_refl _, by simp [maxLen], fun h => by omega⟩
theorem SlR.keep {w w' : World} {e : TypeId} {sz : Nat} {a : Option Addr} {n cap : Nat} {xs : List Value} (h : SlR w e sz a n cap xs) {S : List Nat} (hk : Kept S w w') (hd : ∀ b ∈ blk a cap, b ∉ S) : SlR w' e sz a n cap xs :=
  ⟨h.len, h.le, h.most, fun h0 => by
    obtain ⟨g, off, cur, rfl, hg, h1, h2⟩ := h.rest h0
    exact ⟨g, off, cur, rfl, hk.heap (hd g (by rw [blk_some _ _ _ h0]; simp)) hg, h1, h2⟩⟩
theorem SlR.later {w w' : World} {e : TypeId} {sz : Nat} {a : Option Addr} {n cap : Nat} {xs : List Value} (h : SlR w e sz a n cap xs) (hk : Below w.heap.size w w') : SlR w' e sz a n cap xs :=
  h.keep (Kept.of_below hk (Nat.le_refl _) []) (fun _ _ => by simp)
theorem SlR.lt {w : World} {e : TypeId} {sz : Nat} {a : Option Addr} {n cap : Nat} {xs : List Value} (h : SlR w e sz a n cap xs) : ∀ b ∈ blk a cap, b < w.heap.size ∧ ∃ cur, w.heap[b]? = some (.cells cur e (0, 0)) := by
  intro b hb
  by_cases h0 : cap = 0
  · subst h0; simp [blk_zero] at hb
  · obtain ⟨g, off, cur, rfl, hg, _⟩ := h.rest (by omega)
    rw [blk_some _ _ _ (by omega)] at hb
    simp at hb
    subst hb
    exact ⟨lt_of_block hg, cur, hg⟩
/-- the cells of it -/
theorem SlR.cell {w : World} {e : TypeId} {sz : Nat} {a : Option Addr} {n cap : Nat} {xs : List Value} (h : SlR w e sz a n cap xs) (h0 : 0 < cap) : ∃ g off, a = some ⟨g, off, none⟩ ∧ ∀ j, j < n * sz → w.cell? ⟨g, off + j, none⟩ = xs[j]? := by
  obtain ⟨g, off, cur, rfl, hg, h1, h2⟩ := h.rest h0
  exact ⟨g, off, rfl, fun j hj => by rw [cell_of_row w g _ _ _ (0, 0) hg]; exact h2 j hj⟩
/-- a piece of it, with some of its room: where it has room, its address is moved -/
theorem SlR.sub {w : World} {e : TypeId} {sz : Nat} {g off n cap : Nat} {xs : List Value} (h : SlR w e sz (some ⟨g, off, none⟩) n cap xs) (b f r : Nat) (hbf : b ≤ f) (hfn : f ≤ n) (hfr : f ≤ r) (hr : r ≤ cap) (hbr : b < r) :
    SlR w e sz (some ⟨g, off + b * sz, none⟩) (f - b) (r - b) ((xs.take (f * sz)).drop (b * sz)) := by
  have hm1 : b * sz ≤ f * sz := Nat.mul_le_mul_right _ hbf
  have hm2 : f * sz ≤ n * sz := Nat.mul_le_mul_right _ hfn
  have hm3 : r * sz ≤ cap * sz := Nat.mul_le_mul_right _ hr
  have hsb : (f - b) * sz = f * sz - b * sz := Nat.sub_mul _ _ _
  have hsr : (r - b) * sz = r * sz - b * sz := Nat.sub_mul _ _ _
  have hm4 : b * sz ≤ r * sz := Nat.mul_le_mul_right _ (by omega)
  refine ⟨?_, by omega, by have := h.most; omega, fun _ => ?_⟩
  · have := h.len
    rw [List.length_drop, List.length_take, hsb]
    omega
  · obtain ⟨g', off', cur, hx, hg, h1, h2⟩ := h.rest (by omega)
    injection hx with hx
    injection hx with hx1 hx2
    subst hx1 hx2
    refine ⟨g, off + b * sz, cur, rfl, hg, by omega, fun j hj => ?_⟩
    rw [Nat.add_assoc, h2 (b * sz + j) (by omega), List.getElem?_drop, List.getElem?_take, if_pos (by omega)]
/-- where it has none, whatever its address -/
theorem SlR.sub0 {w : World} {e : TypeId} {sz : Nat} (a : Option Addr) : SlR w e sz a 0 0 [] := ⟨by simp, Nat.le_refl _, by simp [maxLen], fun h => by omega⟩
/-- as what is appended -/
theorem SlR.src {P : Program} {w : World} {e : TypeId} {sz : Nat} {a : Option Addr} {n cap : Nat} {xs : List Value} {t : TypeId} (h : SlR w e sz a n cap xs) (ht : P.underlying t = some (.slice e)) (h1 : ∀ u ∈ xs, u.oneCell' = true) : Src P sz t (.slice a n cap) n xs w := by
  cases a with
  | none =>
    have hn : n = 0 := by
      by_cases h0 : cap = 0
      · have := h.le; omega
      · obtain ⟨g, off, cur, hx, _⟩ := h.rest (by omega)
        cases hx
    subst hn
    have hx0 : xs = [] := List.eq_nil_of_length_eq_zero (by have := h.len; omega)
    subst hx0
    exact Src.ofNil w ht cap
  | some x =>
    refine Src.ofSlice w ht x n cap _ h.len ?_ h1
    intro j u hu
    have hj : j < n * sz := by rw [← h.len]; exact (List.getElem?_eq_some_iff.1 hu).1
    have h0 : 0 < cap := by
      by_cases h0 : cap = 0
      · have := h.le; have : n = 0 := by omega
        subst this; omega
      · omega
    obtain ⟨g, off, hx, hc⟩ := h.cell h0
    obtain rfl : x = ⟨g, off, none⟩ := by injection hx
    have hadd : (⟨g, off, none⟩ : Addr).add j = ⟨g, off + j, none⟩ := by unfold Addr.add; split <;> simp_all
    rw [hadd, hc j hj, hu]
/-- a row of one's own is one -/
theorem slr_of_own {w : World} {base : Nat} {e : TypeId} {sz : Nat} {v : Value} {n : Nat} {xs : List Value} (h : w.ownsRow base e sz v n xs) : ∃ a cap, v = .slice a n cap ∧ SlR w e sz a n cap xs ∧ ∀ b ∈ blk a cap, base ≤ b := by
  rcases h.2 with ⟨rfl, rfl⟩ | ⟨g, cap, cur, rfl, hb, hg, hn, hm, hc, ht⟩
  · have := h.1
    have : xs = [] := List.eq_nil_of_length_eq_zero (by omega)
    subst this
    exact ⟨none, 0, rfl, SlR.nil w e sz, fun b hb => by simp [blk_zero] at hb⟩
  · refine ⟨some ⟨g, 0, none⟩, cap, rfl, ⟨by simpa using h.1, hn, hm, fun _ => ⟨g, 0, cur, rfl, hg, by omega, fun j hj => ?_⟩⟩, fun b hb' => ?_⟩
    · rw [← ht, List.getElem?_take, if_pos hj]
      simp
    · by_cases h0 : cap = 0
      · subst h0; simp [blk_zero] at hb'
      · rw [blk_some _ _ _ (by omega)] at hb'
        simp at hb'
        omega
section
variable {P : Program} (w : World)
theorem run_append_slr (t tx ty : TypeId) (e : TypeId) (i : TypeInfo) (z : Value) (sz bytes : Nat) (ht : P.underlying t = some (.slice e)) (hi : P.info? e = some i) (hz : i.zero = some z)
    (hsize : i.size = sz) (hsz : 0 < sz) (hby : i.bytes = bytes) (hzs : z.cells.size = sz)
    (a : Option Addr) (n cap : Nat) (xs : List Value) (hown : SlR w e sz a n cap xs) (x : Value) (m : Nat) (hm0 : 0 < m) (news : List Value) (hs : Src P sz tx x m news w)
    (h63 : n + m ≤ maxLen) (hbytes : (n + m) * bytes ≤ 140737488355328) :
    ∃ a' cap' w', (Builtin.append_ #[t, tx] ty #[.slice a n cap, x]).run P w = .ok (.slice a' (n + m) cap') w' ∧ SlR w' e sz a' (n + m) cap' (xs ++ news) ∧ Kept (blk a cap) w w' ∧
      ∀ b ∈ blk a' cap', b ∈ blk a cap ∨ w.heap.size ≤ b := by
  have hnl : news.length = m * sz := by simpa using hs.newsLen
  have hxl : xs.length = n * sz := hown.len
  have h63' : ((n + m : Nat) : Int) ≤ 9223372036854775807 := by unfold maxLen at h63; omega
  have hs' : Src P i.size tx x m news w := by rw [hsize]; exact hs
  have hlen : (xs ++ news).length = (n + m) * sz := by rw [List.length_append, hxl, hnl, Nat.add_mul]
  by_cases hroom : n + m ≤ cap
  · obtain ⟨g, off, cur, rfl, hg, h1, h2⟩ := hown.rest (by omega)
    have hcell : ∀ j, w.cell? ⟨g, j, none⟩ = cur[j]? := fun j => cell_of_row w g j cur e (0, 0) hg
    have hfr : ∀ j, w.frozen? ⟨g, j, none⟩ = false := fun j => by simp [World.frozen?, hg]
    have hmul : n * sz + m * sz ≤ cap * sz := by rw [← Nat.add_mul]; exact Nat.mul_le_mul_right _ hroom
    have hr := run_append_room_src (P := P) w t tx ty e i ht hi g off n cap x m news hs' hroom
      (fun j hj => by rw [hcell, hsize]; rw [Array.getElem?_eq_getElem (by omega)]; rfl) (fun j hj => hfr _)
    rw [hsize] at hr
    have hsr : w.setCells g (off + n * sz) news = w.setRow g (cur.toList.take (off + n * sz) ++ news ++ cur.toList.drop (off + n * sz + news.length)).toArray := by
      have h2 := run_storeCells_at P g (off + n * sz) e news 0 cur w hg (by omega) hs.one
      have h3 := run_storeCells_cells (P := P) g (off + n * sz) news 0 w (fun j hj => by rw [hcell]; rw [Array.getElem?_eq_getElem (by omega)]; rfl) (fun j hj => hfr _) hs.one
      simp only [Nat.add_zero] at h2 h3
      rw [h2] at h3
      injection h3 with _ h3
      exact h3.symm
    rw [hsr] at hr
    have hcap : 0 < cap := by omega
    refine ⟨_, _, _, hr, ⟨hlen, hroom, hown.most, fun _ => ⟨g, off, _, rfl, setRow_heap w g cur _ e _ hg, ?_, fun j hj => ?_⟩⟩, ⟨rfl, rfl, rfl, by simp, fun k _ hk => setRow_other w g k _ (fun e => hk (by rw [blk_some _ _ _ hcap]; simp [e]))⟩, fun b hb => .inl hb⟩
    · simp only [List.size_toArray, List.length_append, List.length_take, List.length_drop, Array.length_toList]
      omega
    · have hl1 : (cur.toList.take (off + n * sz)).length = off + n * sz := by rw [List.length_take, Array.length_toList]; omega
      rw [List.getElem?_toArray]
      rw [Nat.add_mul] at hj
      by_cases hjn : j < n * sz
      · rw [List.getElem?_append_left (by rw [List.length_append, hl1]; omega), List.getElem?_append_left (by rw [hl1]; omega), List.getElem?_append_left (by omega), ← h2 j hjn, List.getElem?_take, if_pos (by omega)]
        simp
      · rw [List.getElem?_append_left (by rw [List.length_append, hl1]; omega), List.getElem?_append_right (by rw [hl1]; omega), List.getElem?_append_right (by omega), hl1, hxl]
        congr 1
        omega
  · have hold : (Builtin.firstCells i.size n (.slice a n cap)).run P w.drew = .ok xs.toArray w.drew := by
      cases hc0 : cap with
      | zero =>
        have hn0 : n = 0 := by have := hown.le; omega
        subst hn0
        have hx0 : xs = [] := List.eq_nil_of_length_eq_zero (by omega)
        subst hx0
        cases a with
        | none => exact run_firstCells_none w.drew i.size 0 0 0
        | some y => exact run_firstCells_some w.drew i.size 0 y 0 0 [] (by simp) (fun j v hj => by simp at hj)
      | succ c =>
        obtain ⟨g, off, cur, rfl, hg, h1, h2⟩ := hown.rest (by omega)
        refine run_firstCells_some w.drew i.size n ⟨g, off, none⟩ n (c + 1) xs (by rw [hxl, hsize]) ?_
        intro j v hj
        have hjl : j < n * sz := by rw [← hxl]; exact (List.getElem?_eq_some_iff.1 hj).1
        have hadd : (⟨g, off, none⟩ : Addr).add j = ⟨g, off + j, none⟩ := by unfold Addr.add; split <;> simp_all
        rw [hadd]
        have := cell_of_row w g (off + j) cur e (0, 0) hg
        rw [h2 j hjl, hj] at this
        exact this
    have hr := run_append_grow_src (P := P) w t tx ty e i z ht hi hz a n cap xs hold x m news hs' (by omega) h63' (by rw [hby]; exact growslice_fits (by omega) hbytes)
    have hge := grownCap_ge w (n + m) cap e
    have hgm := grownCap_le_maxLen w (n + m) cap e h63
    refine ⟨_, _, _, hr, ⟨hlen, hge, hgm, fun _ => ⟨w.heap.size, 0, _, rfl, heap_alloc_new w.drew _, ?_, fun j hj => ?_⟩⟩, ⟨rfl, rfl, rfl, by simp, fun k hk _ => Below.heap_alloc w.drew _ k hk⟩, fun b hb => .inr ?_⟩
    · simp only [Array.size_append, List.size_toArray, size_zeroCells, hzs]
      rw [hlen]
      have : grownCap w (n + m) cap e = (n + m) + (grownCap w (n + m) cap e - (n + m)) := by omega
      generalize grownCap w (n + m) cap e - (n + m) = q at *
      rw [this, Nat.add_mul]
      omega
    · rw [Nat.zero_add, Array.getElem?_append_left (by simp only [List.size_toArray]; omega), List.getElem?_toArray]
    · rw [blk_some _ _ _ (by omega)] at hb
      simp at hb
      omega
/-- append as a step of a region that draws its order -/
theorem step_append_slr {ops : Array Oper} {o : Oper} {a : Act} {K : Act → World → Prop} {Q : Exit → Act → World → Prop} {E : Prop} (hgd : o.guard = none) (s x : Operand) (t tx : TypeId)
    (ho : o.op = .call { callee := .builtin .append, args := #[s, x], argTypes := #[t, tx] })
    (e : TypeId) (i : TypeInfo) (z : Value) (sz bytes : Nat) (ht : P.underlying t = some (.slice e)) (hi : P.info? e = some i) (hz : i.zero = some z)
    (hsize : i.size = sz) (hsz : 0 < sz) (hby : i.bytes = bytes) (hzs : z.cells.size = sz)
    (ad : Option Addr) (n cap : Nat) (xs : List Value) (hsv : a.eval s = .slice ad n cap) (hown : SlR w e sz ad n cap xs) (xv : Value) (hx : a.eval x = xv) (m : Nat) (hm0 : 0 < m) (news : List Value) (hs : Src P sz tx xv m news w)
    (h63 : n + m ≤ maxLen) (hbytes : (n + m) * bytes ≤ 140737488355328)
    (h : ∀ a' cap' w', SlR w' e sz a' (n + m) cap' (xs ++ news) → Kept (blk ad cap) w w' → (∀ b ∈ blk a' cap', b ∈ blk ad cap ∨ w.heap.size ≤ b) → K (a.put o.dst (.slice a' (n + m) cap')) w') :
    if Region.wanted o (yielded ops a.tmps) = true then Oper.wp P o a w K Q else E := by
  have hw : Region.wanted o (yielded ops a.tmps) = true := by simp [Region.wanted, hgd]
  rw [if_pos hw]
  obtain ⟨a', cap', w', hr, h2, h3, h4⟩ := run_append_slr (P := P) w t tx o.type e i z sz bytes ht hi hz hsize hsz hby hzs ad n cap xs hown xv m hm0 news hs h63 hbytes
  unfold Oper.wp execOp
  simp only [ho, resolve, invoke, builtin, Sem.run_bind, Sem.run_pure, Result.andThen_ok, List.map_toArray, List.map_cons, List.map_nil, hsv, hx, hr]
  exact h a' cap' w' h2 h3 h4
/-- append as a step of a region in its own order -/
theorem wpList_append_slr {ops : Array Oper} {rest : List Oper} {o : Oper} {a : Act} {Q : Exit → Act → World → Prop} (hgd : o.guard = none) (s x : Operand) (t tx : TypeId)
    (ho : o.op = .call { callee := .builtin .append, args := #[s, x], argTypes := #[t, tx] })
    (e : TypeId) (i : TypeInfo) (z : Value) (sz bytes : Nat) (ht : P.underlying t = some (.slice e)) (hi : P.info? e = some i) (hz : i.zero = some z)
    (hsize : i.size = sz) (hsz : 0 < sz) (hby : i.bytes = bytes) (hzs : z.cells.size = sz)
    (ad : Option Addr) (n cap : Nat) (xs : List Value) (hsv : a.eval s = .slice ad n cap) (hown : SlR w e sz ad n cap xs) (xv : Value) (hx : a.eval x = xv) (m : Nat) (hm0 : 0 < m) (news : List Value) (hs : Src P sz tx xv m news w)
    (h63 : n + m ≤ maxLen) (hbytes : (n + m) * bytes ≤ 140737488355328)
    (h : ∀ a' cap' w', SlR w' e sz a' (n + m) cap' (xs ++ news) → Kept (blk ad cap) w w' → (∀ b ∈ blk a' cap', b ∈ blk ad cap ∨ w.heap.size ≤ b) → wpList P ops Q rest (a.put o.dst (.slice a' (n + m) cap')) w') : wpList P ops Q (o :: rest) a w :=
  wpList_plain hgd fun _ hK => by
    obtain ⟨a', cap', w', hr, h2, h3, h4⟩ := run_append_slr (P := P) w t tx o.type e i z sz bytes ht hi hz hsize hsz hby hzs ad n cap xs hown xv m hm0 news hs h63 hbytes
    unfold Oper.wp execOp
    simp only [ho, resolve, invoke, builtin, Sem.run_bind, Sem.run_pure, Result.andThen_ok, List.map_toArray, List.map_cons, List.map_nil, hsv, hx, hr]
    exact hK _ _ (h a' cap' w' h2 h3 h4)
end
end Go.Proofs.Ytdoedcfmhdnbgaa.mem
