/-
  Memory, for walks: what stays as it was ('Kept'), slices of integers that are read ('SlA'), append of whatever source onto a row of one's own. Imports nothing of the program.
-/
import Derived.Test.YtdoedcfmhdnbgaaAid
import Derived.Deep.AppendLies
import Derived.Deep.AppendSrc
import Derived.Deep.RegionHeld3
import Derived.Deep.QuietTactic
import Derived.BigQuiet
import Derived.WalkSmall
import Derived.OneCell
import Derived.Laws.OwnMore
import Derived.Deep.RegionLaw
import Derived.Deep.DeepCutAuto
import Derived.Deep.Light
import Derived.Deep.LoopGhost
import Derived.Deep.DeepFit
import Derived.Outline
namespace Go.Proofs.Ytdoedcfmhdnbgaa.mem
open Go.RowKit aid
set_option linter.unusedVariables false

/-! ### What stays as it was: all blocks but those of a list -/
structure Kept (S : List Nat) (w w' : World) : Prop where
  os : w'.os = w.os
  tape : w'.tape = w.tape
  output : w'.output = w.output
  size : w.heap.size ≤ w'.heap.size
  block : ∀ k, k < w.heap.size → k ∉ S → w'.heap[k]? = w.heap[k]?

theorem Kept.refl (S : List Nat) (w : World) : Kept S w w := ⟨rfl, rfl, rfl, Nat.le_refl _, fun _ _ _ => rfl⟩
theorem Kept.trans {S S' : List Nat} {a b c : World} (h : Kept S a b) (k : Kept S' b c) (hs : ∀ x ∈ S', x ∈ S ∨ a.heap.size ≤ x) : Kept S a c :=
  ⟨k.os.trans h.os, k.tape.trans h.tape, k.output.trans h.output, Nat.le_trans h.size k.size, fun x hx hn =>
    (k.block x (Nat.lt_of_lt_of_le hx h.size) (fun e => by rcases hs x e with e | e; exact hn e; omega)).trans (h.block x hx hn)⟩
theorem Kept.mono {S S' : List Nat} {a b : World} (h : Kept S a b) (hs : ∀ x ∈ S, x ∈ S' ∨ a.heap.size ≤ x) : Kept S' a b :=
  ⟨h.os, h.tape, h.output, h.size, fun x hx hn => h.block x hx (fun e => by rcases hs x e with e | e; exact hn e; omega)⟩
theorem Kept.drew {S : List Nat} {a w : World} (h : Kept S a w) : Kept S a w.drew := ⟨h.os, h.tape, h.output, h.size, h.block⟩
theorem Kept.drewN {S : List Nat} {a w : World} (h : Kept S a w) (n : Nat) : Kept S a (w.drewN n) := ⟨h.os, h.tape, h.output, h.size, h.block⟩
theorem Kept.alloc {S : List Nat} {a w : World} (h : Kept S a w) (o : Obj) : Kept S a (w.alloc o) :=
  ⟨h.os, h.tape, h.output, by simp; exact Nat.le_succ_of_le h.size, fun k hk hn => (Below.heap_alloc w o k (Nat.lt_of_lt_of_le hk h.size)).trans (h.block k hk hn)⟩
theorem Kept.setCell {S : List Nat} {a w : World} (h : Kept S a w) {p : Addr} (hp : p.block ∈ S ∨ a.heap.size ≤ p.block) (u : Value) : Kept S a (w.setCell p u) :=
  ⟨h.os, h.tape, h.output, by simpa using h.size, fun k hk hn => (Below.heap_setCell w p u k (fun e => by subst e; rcases hp with e | e; exact hn e; omega)).trans (h.block k hk hn)⟩
theorem Kept.grown {S : List Nat} {a w w' : World} {row : Option Nat} (h : Kept S a w) (hg : w.grownBy w' row) (hr : ∀ k, row = some k → k ∈ S ∨ a.heap.size ≤ k) : Kept S a w' :=
  ⟨hg.os.trans h.os, hg.tape.trans h.tape, hg.output.trans h.output, Nat.le_trans h.size hg.size, fun k hk hn =>
    (hg.block k (Nat.lt_of_lt_of_le hk h.size) (fun e => by rcases hr k e.symm with e | e; exact hn e; omega)).trans (h.block k hk hn)⟩
theorem Kept.of_below {B : Nat} {w w' : World} (h : Below B w w') (hB : w.heap.size ≤ B) (S : List Nat) : Kept S w w' :=
  ⟨h.os, h.tape, h.output, h.size, fun k hk _ => h.block k (by omega)⟩
theorem Kept.below {S : List Nat} {B : Nat} {w w' : World} (h : Kept S w w') (hS : ∀ k ∈ S, B ≤ k) (hB : B ≤ w.heap.size) : Below B w w' :=
  ⟨h.os, h.tape, h.output, h.size, fun k hk => h.block k (by omega) (fun e => by have := hS k e; omega)⟩
theorem Kept.cell {S : List Nat} {w w' : World} (h : Kept S w w') {p : Addr} {v : Value} (hp : p.block ∉ S) (hc : w.cell? p = some v) : w'.cell? p = some v :=
  (World.cell?_of_block (h.block p.block (World.block_lt_of_cell? w p hc) hp)).trans hc
theorem Kept.frozen {S : List Nat} {w w' : World} (h : Kept S w w') {p : Addr} {v : Value} (hp : p.block ∉ S) (hc : w.cell? p = some v) : w'.frozen? p = w.frozen? p :=
  World.frozen?_of_block (h.block p.block (World.block_lt_of_cell? w p hc) hp)
theorem Kept.heap {S : List Nat} {w w' : World} (h : Kept S w w') {k : Nat} {o : Obj} (hp : k ∉ S) (hc : w.heap[k]? = some o) : w'.heap[k]? = some o :=
  (h.block k (lt_of_block hc) hp).trans hc
theorem Kept.own {S : List Nat} {w w' : World} (h : Kept S w w') {base : Nat} {e : TypeId} {size : Nat} {v : Value} {n : Nat} {xs : List Value} (hp : ∀ k, v.ownBlock = some k → k ∉ S) (ho : w.ownsRow base e size v n xs) : w'.ownsRow base e size v n xs := by
  refine ⟨ho.1, ?_⟩
  rcases ho.2 with hn | ⟨g, cap, cur, rfl, hb, hgg, rest⟩
  · exact .inl hn
  · exact .inr ⟨g, cap, cur, rfl, hb, h.heap (hp g rfl) hgg, rest⟩
theorem own_base {w : World} {base base' : Nat} {e : TypeId} {size : Nat} {v : Value} {n : Nat} {xs : List Value} (ho : w.ownsRow base e size v n xs) (hb : ∀ k, v.ownBlock = some k → base' ≤ k) : w.ownsRow base' e size v n xs := by
  refine ⟨ho.1, ?_⟩
  rcases ho.2 with hn | ⟨g, cap, cur, rfl, _, hgg, rest⟩
  · exact .inl hn
  · exact .inr ⟨g, cap, cur, rfl, hb g rfl, hgg, rest⟩

theorem set_other {w : World} {a b : Addr} {v : Value} (h : a ≠ b) : (w.setCell a v).cell? b = w.cell? b := by apply World.cell?_setCell_other; exact h
theorem set_same {w : World} {a : Addr} {v u : Value} (h : w.cell? a = some u) : (w.setCell a v).cell? a = some v := by apply World.cell?_setCell_same; exact h

/-! ### A slice of integers that is read -/
def ints (k : IntKind) (l : List Int) : List Value := l.map (Value.int k)
structure SlA (k : IntKind) (w : World) (a : Option Addr) (n cap : Nat) (l : List Int) : Prop where
  len : l.length = n
  le : n ≤ cap
  most : cap ≤ maxLen
  nil : a = none → cap = 0
  cells : 0 < cap → ∃ b off, a = some ⟨b, off, none⟩ ∧ ∀ i, i < n → w.cell? ⟨b, off + i, none⟩ = some (.int k (l.getD i 0))

theorem SlA.keep {k : IntKind} {w w' : World} {a : Option Addr} {n cap : Nat} {l : List Int} (h : SlA k w a n cap l) {S : List Nat} (hk : Kept S w w') (hd : ∀ x, a = some x → x.block ∉ S) : SlA k w' a n cap l :=
  ⟨h.len, h.le, h.most, h.nil, fun h0 => by
    obtain ⟨b, off, rfl, hc⟩ := h.cells h0
    exact ⟨b, off, rfl, fun i hi => hk.cell (p := ⟨b, off + i, none⟩) (hd ⟨b, off, none⟩ rfl) (hc i hi)⟩⟩
theorem SlA.keepIf {k : IntKind} {w w' : World} {a : Option Addr} {n cap : Nat} {l : List Int} (h : SlA k w a n cap l) {S : List Nat} (hk : Kept S w w') (hd : ∀ x, a = some x → 0 < cap → x.block ∉ S) : SlA k w' a n cap l :=
  ⟨h.len, h.le, h.most, h.nil, fun h0 => by
    obtain ⟨b, off, rfl, hc⟩ := h.cells h0
    exact ⟨b, off, rfl, fun i hi => hk.cell (p := ⟨b, off + i, none⟩) (hd ⟨b, off, none⟩ rfl h0) (hc i hi)⟩⟩
theorem SlA.later {k : IntKind} {w w' : World} {a : Option Addr} {n cap : Nat} {l : List Int} (h : SlA k w a n cap l) (hk : Below w.heap.size w w') : SlA k w' a n cap l :=
  h.keep (Kept.of_below hk (Nat.le_refl _) []) (fun _ _ => by simp)

theorem SlA.drew {k : IntKind} {w : World} {a : Option Addr} {n cap : Nat} {l : List Int} (h : SlA k w a n cap l) : SlA k w.drew a n cap l := h.keep (Kept.refl [] w).drew (fun _ _ => by simp)
theorem SlA.drewN {k : IntKind} {w : World} {a : Option Addr} {n cap : Nat} {l : List Int} (h : SlA k w a n cap l) (q : Nat) : SlA k (w.drewN q) a n cap l := h.keep ((Kept.refl [] w).drewN q) (fun _ _ => by simp)
theorem getD_map_some {k : IntKind} {l : List Int} {j : Nat} (hj : j < l.length) : (l.map (Value.int k))[j]? = some (Value.int k (l.getD j 0)) := by simp [List.getD, hj]

/-- what it yields as an append's second argument -/
theorem SlA.src {P : Program} {k : IntKind} {w : World} {a : Option Addr} {n cap : Nat} {l : List Int} (h : SlA k w a n cap l) {t e : TypeId} (ht : P.underlying t = some (.slice e)) :
    Src P 1 t (.slice a n cap) n (ints k l) w := by
  have h1 : ∀ u ∈ ints k l, u.oneCell' = true := by
    intro u hu
    obtain ⟨_, _, rfl⟩ := List.mem_map.1 hu
    rfl
  have hl : (ints k l).length = n * 1 := by simp [ints, h.len]
  cases a with
  | none =>
    have h0 : cap = 0 := h.nil rfl
    have hle := h.le
    have hn : n = 0 := by omega
    have hll := h.len
    obtain rfl : l = [] := List.eq_nil_of_length_eq_zero (by omega)
    subst hn
    exact Src.ofNil w ht cap
  | some x =>
    refine Src.ofSlice w ht x n cap _ hl ?_ h1
    intro j u hu
    have hj : j < l.length := by simpa [ints] using (List.getElem?_eq_some_iff.1 hu).1
    rw [ints, getD_map_some hj] at hu
    obtain ⟨b, off, hx, hc⟩ := h.cells (by have := h.len; have := h.le; omega)
    obtain rfl : x = ⟨b, off, none⟩ := by injection hx
    have hadd : (⟨b, off, none⟩ : Addr).add j = ⟨b, off + j, none⟩ := by unfold Addr.add; split <;> simp_all
    rw [hadd, hc j (by have := h.len; omega)]
    exact hu

/-- a row of one's own is such a slice -/
theorem sl_of_own {w : World} {base : Nat} {e : TypeId} {k : IntKind} {v : Value} {n : Nat} {l : List Int} (h : w.ownsRow base e 1 v n (ints k l)) :
    ∃ a cap, v = .slice a n cap ∧ SlA k w a n cap l ∧ ∀ x, a = some x → v.ownBlock = some x.block := by
  have hl : l.length = n := by simpa [ints] using h.1
  rcases h.2 with ⟨rfl, rfl⟩ | ⟨g, cap, cur, rfl, hb, hg, hn, hm, hc, ht⟩
  · exact ⟨none, 0, rfl, ⟨hl, Nat.le_refl _, by unfold maxLen; omega, fun _ => rfl, fun h => by omega⟩, fun _ h => by cases h⟩
  · refine ⟨some ⟨g, 0, none⟩, cap, rfl, ⟨hl, hn, hm, (fun h => by cases h), fun _ => ⟨g, 0, rfl, fun i hi => ?_⟩⟩, fun x hx => by injection hx with hx; subst hx; rfl⟩
    rw [cell_of_row w g _ cur e (0, 0) hg]
    have : (ints k l)[i]? = cur[0 + i]? := by rw [← ht, List.getElem?_take]; simp; intro h; omega
    rw [← this, ints, getD_map_some (by omega)]

/-- a piece of such a slice, from its head on -/
theorem SlA.take {k : IntKind} {w : World} {a : Option Addr} {n cap : Nat} {l : List Int} (h : SlA k w a n cap l) (m : Nat) (hm : m ≤ n) : SlA k w a m cap (l.take m) :=
  ⟨by simp [h.len, hm], Nat.le_trans hm h.le, h.most, h.nil, fun h0 => by
    obtain ⟨b, off, rfl, hc⟩ := h.cells h0
    refine ⟨b, off, rfl, fun i hi => ?_⟩
    rw [hc i (by omega)]
    simp [List.getD, hi]⟩
/-- where the capacity ends at once the address stays; else it is moved -/
theorem SlA.drop_end {k : IntKind} {w : World} {a : Option Addr} {n cap : Nat} {l : List Int} (h : SlA k w a n cap l) (m : Nat) (hm : m ≤ n) (he : cap = m) : SlA k w a (n - m) 0 (l.drop m) :=
  ⟨by simp [h.len], (by have := h.le; omega), by simp [maxLen], fun _ => rfl, fun h0 => by omega⟩
theorem SlA.drop {k : IntKind} {w : World} {b off : Nat} {n cap : Nat} {l : List Int} (h : SlA k w (some ⟨b, off, none⟩) n cap l) (m : Nat) (hm : m ≤ n) (he : cap ≠ m) : SlA k w (some ⟨b, off + m, none⟩) (n - m) (cap - m) (l.drop m) :=
  ⟨by simp [h.len], (by have := h.le; omega), (by have := h.most; omega), (fun h => by cases h), fun h0 => by
    obtain ⟨b', off', hb, hc⟩ := h.cells (by omega)
    injection hb with hb
    injection hb with hb1 hb2
    subst hb1 hb2
    refine ⟨b, off + m, rfl, fun i hi => ?_⟩
    rw [Nat.add_assoc, hc (m + i) (by omega)]
    simp [List.getD]⟩

theorem own_form {w : World} {base : Nat} {e : TypeId} {size : Nat} {v : Value} {n : Nat} {xs : List Value} (h : w.ownsRow base e size v n xs) : ∃ a cap, v = .slice a n cap := by
  rcases h.2 with ⟨rfl, rfl⟩ | ⟨g, cap, cur, rfl, _⟩
  · exact ⟨none, 0, rfl⟩
  · exact ⟨_, cap, rfl⟩
theorem ints_append (k : IntKind) (l r : List Int) : ints k (l ++ r) = ints k l ++ ints k r := List.map_append

/-! ### append, of whatever source, onto a row of one's own -/
section
variable {P : Program} (w : World)

theorem run_append_any (t tx ty : TypeId) (base : Nat) (e : TypeId) (i : TypeInfo) (z : Value) (bytes : Nat) (ht : P.underlying t = some (.slice e)) (hi : P.info? e = some i) (hz : i.zero = some z)
    (hsize : i.size = 1) (hby : i.bytes = bytes) (hzs : z.cells.size = 1)
    (v : Value) (n : Nat) (xs : List Value) (hown : w.ownsRow base e 1 v n xs) (x : Value) (m : Nat) (news : List Value) (hs : Src P 1 tx x m news w)
    (h63 : n + m ≤ maxLen) (hbytes : (n + m) * bytes ≤ 140737488355328) (hbase : base ≤ w.heap.size) :
    ∃ v' w', (Builtin.append_ #[t, tx] ty #[v, x]).run P w = .ok v' w' ∧ w'.ownsRow base e 1 v' (n + m) (xs ++ news) ∧ w.grownBy w' v.ownBlock ∧
      (v'.ownBlock = v.ownBlock ∨ v'.ownBlock = some w.heap.size) := by
  have hnl : news.length = m := by simpa using hs.newsLen
  have hxl : xs.length = n := by simpa using hown.1
  have h63' : ((n + m : Nat) : Int) ≤ 9223372036854775807 := by unfold maxLen at h63; omega
  have hs' : Src P i.size tx x m news w := by rw [hsize]; exact hs
  have grow : ∀ (b : Option Addr) (cap : Nat), cap < n + m → (Builtin.firstCells i.size n (.slice b n cap)).run P w.drew = .ok xs.toArray w.drew →
      ∃ v' w', (Builtin.append_ #[t, tx] ty #[.slice b n cap, x]).run P w = .ok v' w' ∧ w'.ownsRow base e 1 v' (n + m) (xs ++ news) ∧ w.grownBy w' (Value.ownBlock (.slice b n cap)) ∧
      (v'.ownBlock = Value.ownBlock (.slice b n cap) ∨ v'.ownBlock = some w.heap.size) := by
    intro b cap hlt hold
    have hr := run_append_grow_src (P := P) w t tx ty e i z ht hi hz b n cap xs hold x m news hs' hlt h63' (by rw [hby]; exact growslice_fits (by omega) hbytes)
    refine ⟨_, _, hr, ⟨by simp [hxl, hnl], .inr ⟨w.heap.size, _, _, rfl, hbase, heap_alloc_new w.drew _, grownCap_ge _ _ _ _, grownCap_le_maxLen _ _ _ _ h63, ?_, ?_⟩⟩, ⟨rfl, rfl, rfl, by simp, fun k hk _ => Below.heap_alloc w.drew _ k hk⟩, .inr rfl⟩
    · have hge := grownCap_ge w (n + m) cap e
      simp only [Array.size_append, List.size_toArray, size_zeroCells, hzs, List.length_append, hxl, hnl]
      omega
    · simp only [Array.toList_append, Nat.mul_one]
      rw [show n + m = (xs ++ news).length from by simp [hxl, hnl]]
      exact List.take_left
  rcases hown.2 with ⟨rfl, rfl⟩ | ⟨g, cap, cur, rfl, hbg, hg, hnc, hcm, hcs, htake⟩
  · obtain rfl : xs = [] := List.eq_nil_of_length_eq_zero (by omega)
    by_cases hm : m = 0
    · subst hm
      obtain rfl : news = [] := List.eq_nil_of_length_eq_zero (by omega)
      refine ⟨.slice none 0 0, w, ?_, World.ownsRow_nil w base e 1, ⟨rfl, rfl, rfl, Nat.le_refl _, fun _ _ _ => rfl⟩, .inl rfl⟩
      have hc := hs'.cells
      rcases hs.kind with ⟨e', hk⟩ | hk <;> simp [Builtin.append_, run_underlying ht, run_underlying hk, sizeOf, typeInfo, hi, hs.len, hc]
    · exact grow none 0 (by omega) (run_firstCells_none w.drew i.size 0 0 0)
  · by_cases hroom : n + m ≤ cap
    · have hcell : ∀ j, w.cell? ⟨g, j, none⟩ = cur[j]? := fun j => cell_of_row w g j cur e (0, 0) hg
      have hfr : ∀ j, w.frozen? ⟨g, j, none⟩ = false := fun j => by simp [World.frozen?, hg]
      have hr := run_append_room_src (P := P) w t tx ty e i ht hi g 0 n cap x m news hs' hroom
        (fun j hj => by rw [hcell, hsize]; rw [Array.getElem?_eq_getElem (by rw [hcs]; omega)]; rfl) (fun j hj => hfr _)
      have hst := hr
      rw [hsize] at hr
      simp only [Nat.zero_add, Nat.mul_one] at hr
      have hsr : w.setCells g n news = w.setRow g (cur.toList.take n ++ news ++ cur.toList.drop (n + news.length)).toArray := by
        have h1 := run_append_room_src (P := P) w t tx ty e i ht hi g 0 n cap x m news hs' hroom
          (fun j hj => by rw [hcell, hsize]; rw [Array.getElem?_eq_getElem (by rw [hcs]; omega)]; rfl) (fun j hj => hfr _)
        have h2 := run_storeCells_at P g n e news 0 cur w hg (by omega) hs.one
        have h3 := run_storeCells_cells (P := P) g n news 0 w (fun j hj => by rw [hcell]; rw [Array.getElem?_eq_getElem (by rw [hcs]; omega)]; rfl) (fun j hj => hfr _) hs.one
        simp only [Nat.add_zero] at h2 h3
        rw [h2] at h3
        injection h3 with _ h3
        exact h3.symm
      rw [hsr] at hr
      refine ⟨_, _, hr, ⟨by simp [hxl, hnl], .inr ⟨g, cap, _, rfl, hbg, setRow_heap w g cur _ e _ hg, hroom, hcm, ?_, ?_⟩⟩, ⟨rfl, rfl, rfl, by simp, fun k _ hk => setRow_other w g k _ (fun e => hk (by simp [Value.ownBlock, e]))⟩, .inl rfl⟩
      · simp only [List.size_toArray, List.length_append, List.length_take, List.length_drop, Array.length_toList]
        omega
      · have ht' : cur.toList.take n = xs := by simpa using htake
        simp only [Nat.mul_one]
        rw [ht', show n + m = (xs ++ news).length from by simp [hxl, hnl]]
        exact List.take_left
    · refine grow (some ⟨g, 0, none⟩) cap (by omega) ?_
      exact run_firstCells_some w.drew i.size n ⟨g, 0, none⟩ n cap xs (by rw [hxl, hsize]; omega) (by have := hown.cells (g := g) rfl; simpa using this)

theorem wp_append_any {o : Oper} {a : Act} {K : Act → World → Prop} {Q : Exit → Act → World → Prop} (s x : Operand) (t tx : TypeId)
    (ho : o.op = .call { callee := .builtin .append, args := #[s, x], argTypes := #[t, tx] })
    (base : Nat) (e : TypeId) (i : TypeInfo) (z : Value) (bytes : Nat) (ht : P.underlying t = some (.slice e)) (hi : P.info? e = some i) (hz : i.zero = some z)
    (hsize : i.size = 1) (hby : i.bytes = bytes) (hzs : z.cells.size = 1)
    (v : Value) (n : Nat) (xs : List Value) (hsv : a.eval s = v) (hown : w.ownsRow base e 1 v n xs) (xv : Value) (hx : a.eval x = xv) (m : Nat) (news : List Value) (hs : Src P 1 tx xv m news w)
    (h63 : n + m ≤ maxLen) (hbytes : (n + m) * bytes ≤ 140737488355328) (hbase : base ≤ w.heap.size)
    (h : ∀ a' cap' w', w'.ownsRow base e 1 (.slice a' (n + m) cap') (n + m) (xs ++ news) → w.grownBy w' v.ownBlock → (Value.ownBlock (.slice a' (n + m) cap') = v.ownBlock ∨ Value.ownBlock (.slice a' (n + m) cap') = some w.heap.size) → K (a.put o.dst (.slice a' (n + m) cap')) w') : o.wp P a w K Q := by
  obtain ⟨v', w', hr, h2, h3, h4⟩ := run_append_any (P := P) w t tx o.type base e i z bytes ht hi hz hsize hby hzs v n xs hown xv m news hs h63 hbytes hbase
  unfold Oper.wp execOp
  obtain ⟨a', cap', rfl⟩ := own_form h2
  simp only [ho, resolve, invoke, builtin, Sem.run_bind, Sem.run_pure, Result.andThen_ok, List.map_toArray, List.map_cons, List.map_nil, hsv, hx, hr]
  exact h a' cap' w' h2 h3 h4

theorem wpList_append_any {ops : Array Oper} {rest : List Oper} {o : Oper} {a : Act} {Q : Exit → Act → World → Prop} (hgd : o.guard = none) (s x : Operand) (t tx : TypeId)
    (ho : o.op = .call { callee := .builtin .append, args := #[s, x], argTypes := #[t, tx] })
    (base : Nat) (e : TypeId) (i : TypeInfo) (z : Value) (bytes : Nat) (ht : P.underlying t = some (.slice e)) (hi : P.info? e = some i) (hz : i.zero = some z)
    (hsize : i.size = 1) (hby : i.bytes = bytes) (hzs : z.cells.size = 1)
    (v : Value) (n : Nat) (xs : List Value) (hsv : a.eval s = v) (hown : w.ownsRow base e 1 v n xs) (xv : Value) (hx : a.eval x = xv) (m : Nat) (news : List Value) (hs : Src P 1 tx xv m news w)
    (h63 : n + m ≤ maxLen) (hbytes : (n + m) * bytes ≤ 140737488355328) (hbase : base ≤ w.heap.size)
    (h : ∀ a' cap' w', w'.ownsRow base e 1 (.slice a' (n + m) cap') (n + m) (xs ++ news) → w.grownBy w' v.ownBlock → (Value.ownBlock (.slice a' (n + m) cap') = v.ownBlock ∨ Value.ownBlock (.slice a' (n + m) cap') = some w.heap.size) → wpList P ops Q rest (a.put o.dst (.slice a' (n + m) cap')) w') : wpList P ops Q (o :: rest) a w :=
  wpList_plain hgd fun _ hK => wp_append_any w s x t tx ho base e i z bytes ht hi hz hsize hby hzs v n xs hsv hown xv hx m news hs h63 hbytes hbase fun a' cap' w' h2 h3 h4 => hK _ _ (h a' cap' w' h2 h3 h4)

theorem step_append_any {ops : Array Oper} {o : Oper} {a : Act} {K : Act → World → Prop} {Q : Exit → Act → World → Prop} {E : Prop} (hgd : o.guard = none) (s x : Operand) (t tx : TypeId)
    (ho : o.op = .call { callee := .builtin .append, args := #[s, x], argTypes := #[t, tx] })
    (base : Nat) (e : TypeId) (i : TypeInfo) (z : Value) (bytes : Nat) (ht : P.underlying t = some (.slice e)) (hi : P.info? e = some i) (hz : i.zero = some z)
    (hsize : i.size = 1) (hby : i.bytes = bytes) (hzs : z.cells.size = 1)
    (v : Value) (n : Nat) (xs : List Value) (hsv : a.eval s = v) (hown : w.ownsRow base e 1 v n xs) (xv : Value) (hx : a.eval x = xv) (m : Nat) (news : List Value) (hs : Src P 1 tx xv m news w)
    (h63 : n + m ≤ maxLen) (hbytes : (n + m) * bytes ≤ 140737488355328) (hbase : base ≤ w.heap.size)
    (h : ∀ a' cap' w', w'.ownsRow base e 1 (.slice a' (n + m) cap') (n + m) (xs ++ news) → w.grownBy w' v.ownBlock → (Value.ownBlock (.slice a' (n + m) cap') = v.ownBlock ∨ Value.ownBlock (.slice a' (n + m) cap') = some w.heap.size) → K (a.put o.dst (.slice a' (n + m) cap')) w') :
    if Region.wanted o (yielded ops a.tmps) = true then Oper.wp P o a w K Q else E := by
  have hw : Region.wanted o (yielded ops a.tmps) = true := by simp [Region.wanted, hgd]
  rw [if_pos hw]
  exact wp_append_any w s x t tx ho base e i z bytes ht hi hz hsize hby hzs v n xs hsv hown xv hx m news hs h63 hbytes hbase h
end

/-- a slice of integers that came in, as a slice that is read -/
theorem sl_of_row {k : IntKind} {w : World} {a : Option Addr} {len cap : Nat} {zs : List Int} (h : IsRow k w a len cap zs) : SlA k w a len cap (zs.take len) := by
  rcases h with ⟨h1, h2, h3, h4⟩ | ⟨x, hx, h1, h2, h3, h4, h5⟩
  · subst h1 h2 h3 h4
    exact ⟨rfl, Nat.le_refl _, by simp [maxLen], fun _ => rfl, fun h => by omega⟩
  · refine ⟨by simp; omega, h1, h2, (fun h => by rw [hx] at h; cases h), fun h0 => ?_⟩
    obtain ⟨b, off, rfl, hc⟩ := ints_at h4 (by omega)
    refine ⟨b, off, hx, fun i hi => ?_⟩
    rw [hc i (by omega)]
    congr 2
    simp [List.getD, hi]
theorem wf_of_row {k : IntKind} {w : World} {a : Option Addr} {len cap : Nat} {zs : List Int} (h : IsRow k w a len cap zs) : ∀ n ∈ zs.take len, (Lit.int k n).wf = true := by
  rcases h with ⟨h1, h2, h3, h4⟩ | ⟨x, hx, h1, h2, h3, h4, h5⟩
  · subst h4; simp
  · exact fun n hn => h5 n (List.mem_of_mem_take hn)

/-- the cells of a new block that holds integers -/
theorem sl_new (k : IntKind) (t : TypeId) (w : World) (c : List Int) (hm : c.length ≤ maxLen) : SlA k (w.alloc (.cells (ints k c).toArray t)) (some ⟨w.heap.size, 0, none⟩) c.length c.length c :=
  ⟨rfl, Nat.le_refl _, hm, (fun h => by cases h), fun h0 => ⟨w.heap.size, 0, rfl, fun i hi => by
    rw [World.cell?_alloc_at _ _ _ _ rfl, List.getElem?_toArray, Nat.zero_add, ints, getD_map_some hi]⟩⟩

end Go.Proofs.Ytdoedcfmhdnbgaa.mem
