/-
  Several texts in one: Aid Mem App Own Kp DctX DctW DctC Cpy
-/
import Derived.WalkKit
import Derived.WalkLawsBesides
import Derived.WalkSpells
import Derived.Handy
import Derived.Lib.Hide
import Derived.Deep.AppendLies
import Derived.Deep.AppendSrc
import Derived.Deep.RegionHeld3
import Derived.Deep.QuietTactic
import Derived.BigQuiet
import Derived.WalkSmall
import Derived.OneCell
import Derived.Laws.OwnMore
import Derived.Deep.RegionLaw
import Derived.Deep.DeepCutAuto
import Derived.Deep.Light
import Derived.Deep.LoopGhost
import Derived.Deep.DeepFit
import Derived.Outline
import Derived.OwnWalkIn
import Derived.Test.YtahegkbdefhlpaaProg
import Derived.Laws.StructEq
import Derived.Deep.DrawnRows
import Derived.StillTailTactics
import Derived.IntWalk
import Derived.Maps.OwnSet
import Derived.Shelf.SlMaps.Clone
/-!   Small facts on numbers, for walks. Imports nothing of the program.
-/
namespace Go.Proofs.Ytahegkbdefhlpaa.aid
open Go.RowKit

theorem ret_i {k : IntKind} {a b : Int} (h : a = b) : Ending.returned (.int k a) = .returned (.int k b) := by rw [h]
theorem ret_b {a b : Bool} (h : a = b) : Ending.returned (.bool a) = .returned (.bool b) := by rw [h]

theorem tmod_pos (n m : Int) (h0 : 0 ≤ n) : n.tmod m = n % m := Int.tmod_eq_emod_of_nonneg h0

/-- the remainder cut towards nought, by a modulus above 0 -/
theorem tmod_or (n m : Int) (hm : 0 < m) : (0 ≤ n.tmod m ∧ n.tmod m = n % m) ∨ (n.tmod m < 0 ∧ n.tmod m = n % m - m) := by
  by_cases h0 : 0 ≤ n
  · left
    rw [Int.tmod_eq_emod_of_nonneg h0]
    exact ⟨Int.emod_nonneg _ (by omega), rfl⟩
  · have h := Int.tmod_eq_emod (a := n) (b := m)
    have h1 := Int.emod_nonneg n (b := m) (by omega)
    have h2 := Int.emod_lt_of_pos n hm
    by_cases hd : m ∣ n
    · left
      rw [h]
      have hz : n % m = 0 := Int.emod_eq_zero_of_dvd hd
      simp [hd, hz]
    · right
      rw [h]
      have hz : n % m ≠ 0 := fun e => hd (Int.dvd_of_emod_eq_zero e)
      have ha : (m.natAbs : Int) = m := by omega
      simp [hd, h0, ha]
      omega

theorem w64 (n : Int) (h : -9223372036854775808 ≤ n ∧ n ≤ 9223372036854775807) : wrap64 n = n := by unfold wrap64; omega
theorem w32 (n : Int) (h : -2147483648 ≤ n ∧ n ≤ 2147483647) : wrap32 n = n := by unfold wrap32; omega
theorem w32_bd (n : Int) : -2147483648 ≤ wrap32 n ∧ wrap32 n ≤ 2147483647 := by unfold wrap32; omega

/-- what is told of a slice of integers that came in: it is nil; or it leads to a row of 'cap' cells, the numbers 'zs' (the first 'len' are its elements), each fitting its kind -/
def IsRow (k : IntKind) (w : World) (a : Option Addr) (len cap : Nat) (zs : List Int) : Prop :=
  (a = none ∧ len = 0 ∧ cap = 0 ∧ zs = []) ∨
  ∃ x, a = some x ∧ len ≤ cap ∧ cap ≤ maxLen ∧ zs.length = cap ∧ (∀ i, i < zs.length → w.cell? (x.add i) = some (.int k (zs.getD i 0))) ∧ ∀ n ∈ zs, (Lit.int k n).wf = true

/-- the elements of such a slice: there are none; or they lie at a place -/
theorem IsRow.elems {k : IntKind} {w : World} {a : Option Addr} {len cap : Nat} {zs : List Int} (h : IsRow k w a len cap zs) :
    len = 0 ∨ ∃ b off, a = some ⟨b, off, none⟩ ∧ len ≤ 9223372036854775807 ∧ (zs.take len).length = len ∧ (∀ i, i < len → w.cell? ⟨b, off + i, none⟩ = some (.int k ((zs.take len).getD i 0))) ∧ ∀ n ∈ zs.take len, (Lit.int k n).wf = true := by
  rcases h with ⟨_, h, _, _⟩ | ⟨x, hx, h1, h2, h3, h4, h5⟩
  · exact .inl h
  · by_cases h0 : len = 0
    · exact .inl h0
    · right
      obtain ⟨b, off, rfl, hc⟩ := ints_at h4 (by omega)
      refine ⟨b, off, hx, by unfold maxLen at h2; omega, by simp; omega, ?_, fun n hn => h5 n (List.mem_of_mem_take hn)⟩
      intro i hi
      rw [hc i (by omega)]
      congr 2
      simp [List.getD, hi]

theorem getD_bd {zs : List Int} (P : Int → Prop) (h0 : P 0) (h : ∀ n ∈ zs, P n) (j : Nat) : P (zs.getD j 0) := by
  by_cases hj : j < zs.length
  · simp only [List.getD, List.getElem?_eq_getElem hj, Option.getD_some]
    exact h _ (List.getElem_mem _)
  · simp only [List.getD, List.getElem?_eq_none (Nat.le_of_not_lt hj), Option.getD_none]
    exact h0
end Go.Proofs.Ytahegkbdefhlpaa.aid
/-!   Memory, for walks: what stays as it was ('Kept'), slices of integers that are read ('SlA'), append of whatever source onto a row of one's own. Imports nothing of the program.
-/
namespace Go.Proofs.Ytahegkbdefhlpaa.mem
open Go.RowKit aid
set_option linter.unusedVariables false

/-! ### What stays as it was: all blocks but those of a list -/
structure Kept (S : List Nat) (w w' : World) : Prop where
  os : w'.os = w.os
  tape : w'.tape = w.tape
  output : w'.output = w.output
  size : w.heap.size ≤ w'.heap.size
  block : ∀ k, k < w.heap.size → k ∉ S → w'.heap[k]? = w.heap[k]?

theorem Kept.refl (S : List Nat) (w : World) : Kept S w w := ⟨rfl, rfl, rfl, Nat.le_refl _, fun _ _ _ => rfl⟩
theorem Kept.trans {S S' : List Nat} {a b c : World} (h : Kept S a b) (k : Kept S' b c) (hs : ∀ x ∈ S', x ∈ S ∨ a.heap.size ≤ x) : Kept S a c :=
  ⟨k.os.trans h.os, k.tape.trans h.tape, k.output.trans h.output, Nat.le_trans h.size k.size, fun x hx hn =>
    (k.block x (Nat.lt_of_lt_of_le hx h.size) (fun e => by rcases hs x e with e | e; exact hn e; omega)).trans (h.block x hx hn)⟩
theorem Kept.mono {S S' : List Nat} {a b : World} (h : Kept S a b) (hs : ∀ x ∈ S, x ∈ S' ∨ a.heap.size ≤ x) : Kept S' a b :=
  ⟨h.os, h.tape, h.output, h.size, fun x hx hn => h.block x hx (fun e => by rcases hs x e with e | e; exact hn e; omega)⟩
theorem Kept.drew {S : List Nat} {a w : World} (h : Kept S a w) : Kept S a w.drew := ⟨h.os, h.tape, h.output, h.size, h.block⟩
theorem Kept.drewN {S : List Nat} {a w : World} (h : Kept S a w) (n : Nat) : Kept S a (w.drewN n) := ⟨h.os, h.tape, h.output, h.size, h.block⟩
theorem Kept.alloc {S : List Nat} {a w : World} (h : Kept S a w) (o : Obj) : Kept S a (w.alloc o) :=
  ⟨h.os, h.tape, h.output, by simp; exact Nat.le_succ_of_le h.size, fun k hk hn => (Below.heap_alloc w o k (Nat.lt_of_lt_of_le hk h.size)).trans (h.block k hk hn)⟩
theorem Kept.setCell {S : List Nat} {a w : World} (h : Kept S a w) {p : Addr} (hp : p.block ∈ S ∨ a.heap.size ≤ p.block) (u : Value) : Kept S a (w.setCell p u) :=
  ⟨h.os, h.tape, h.output, by simpa using h.size, fun k hk hn => (Below.heap_setCell w p u k (fun e => by subst e; rcases hp with e | e; exact hn e; omega)).trans (h.block k hk hn)⟩
theorem Kept.grown {S : List Nat} {a w w' : World} {row : Option Nat} (h : Kept S a w) (hg : w.grownBy w' row) (hr : ∀ k, row = some k → k ∈ S ∨ a.heap.size ≤ k) : Kept S a w' :=
  ⟨hg.os.trans h.os, hg.tape.trans h.tape, hg.output.trans h.output, Nat.le_trans h.size hg.size, fun k hk hn =>
    (hg.block k (Nat.lt_of_lt_of_le hk h.size) (fun e => by rcases hr k e.symm with e | e; exact hn e; omega)).trans (h.block k hk hn)⟩
theorem Kept.of_below {B : Nat} {w w' : World} (h : Below B w w') (hB : w.heap.size ≤ B) (S : List Nat) : Kept S w w' :=
  ⟨h.os, h.tape, h.output, h.size, fun k hk _ => h.block k (by omega)⟩
theorem Kept.below {S : List Nat} {B : Nat} {w w' : World} (h : Kept S w w') (hS : ∀ k ∈ S, B ≤ k) (hB : B ≤ w.heap.size) : Below B w w' :=
  ⟨h.os, h.tape, h.output, h.size, fun k hk => h.block k (by omega) (fun e => by have := hS k e; omega)⟩
theorem Kept.cell {S : List Nat} {w w' : World} (h : Kept S w w') {p : Addr} {v : Value} (hp : p.block ∉ S) (hc : w.cell? p = some v) : w'.cell? p = some v :=
  (World.cell?_of_block (h.block p.block (World.block_lt_of_cell? w p hc) hp)).trans hc
theorem Kept.frozen {S : List Nat} {w w' : World} (h : Kept S w w') {p : Addr} {v : Value} (hp : p.block ∉ S) (hc : w.cell? p = some v) : w'.frozen? p = w.frozen? p :=
  World.frozen?_of_block (h.block p.block (World.block_lt_of_cell? w p hc) hp)
theorem Kept.heap {S : List Nat} {w w' : World} (h : Kept S w w') {k : Nat} {o : Obj} (hp : k ∉ S) (hc : w.heap[k]? = some o) : w'.heap[k]? = some o :=
  (h.block k (lt_of_block hc) hp).trans hc
theorem Kept.own {S : List Nat} {w w' : World} (h : Kept S w w') {base : Nat} {e : TypeId} {size : Nat} {v : Value} {n : Nat} {xs : List Value} (hp : ∀ k, v.ownBlock = some k → k ∉ S) (ho : w.ownsRow base e size v n xs) : w'.ownsRow base e size v n xs := by
  refine ⟨ho.1, ?_⟩
  rcases ho.2 with hn | ⟨g, cap, cur, rfl, hb, hgg, rest⟩
  · exact .inl hn
  · exact .inr ⟨g, cap, cur, rfl, hb, h.heap (hp g rfl) hgg, rest⟩
theorem own_base {w : World} {base base' : Nat} {e : TypeId} {size : Nat} {v : Value} {n : Nat} {xs : List Value} (ho : w.ownsRow base e size v n xs) (hb : ∀ k, v.ownBlock = some k → base' ≤ k) : w.ownsRow base' e size v n xs := by
  refine ⟨ho.1, ?_⟩
  rcases ho.2 with hn | ⟨g, cap, cur, rfl, _, hgg, rest⟩
  · exact .inl hn
  · exact .inr ⟨g, cap, cur, rfl, hb g rfl, hgg, rest⟩

theorem set_other {w : World} {a b : Addr} {v : Value} (h : a ≠ b) : (w.setCell a v).cell? b = w.cell? b := by apply World.cell?_setCell_other; exact h
theorem set_same {w : World} {a : Addr} {v u : Value} (h : w.cell? a = some u) : (w.setCell a v).cell? a = some v := by apply World.cell?_setCell_same; exact h

/-! ### A slice of integers that is read -/
def ints (k : IntKind) (l : List Int) : List Value := l.map (Value.int k)
structure SlA (k : IntKind) (w : World) (a : Option Addr) (n cap : Nat) (l : List Int) : Prop where
  len : l.length = n
  le : n ≤ cap
  most : cap ≤ maxLen
  nil : a = none → cap = 0
  cells : 0 < cap → ∃ b off, a = some ⟨b, off, none⟩ ∧ ∀ i, i < n → w.cell? ⟨b, off + i, none⟩ = some (.int k (l.getD i 0))

theorem SlA.keep {k : IntKind} {w w' : World} {a : Option Addr} {n cap : Nat} {l : List Int} (h : SlA k w a n cap l) {S : List Nat} (hk : Kept S w w') (hd : ∀ x, a = some x → x.block ∉ S) : SlA k w' a n cap l :=
  ⟨h.len, h.le, h.most, h.nil, fun h0 => by
    obtain ⟨b, off, rfl, hc⟩ := h.cells h0
    exact ⟨b, off, rfl, fun i hi => hk.cell (p := ⟨b, off + i, none⟩) (hd ⟨b, off, none⟩ rfl) (hc i hi)⟩⟩
theorem SlA.keepIf {k : IntKind} {w w' : World} {a : Option Addr} {n cap : Nat} {l : List Int} (h : SlA k w a n cap l) {S : List Nat} (hk : Kept S w w') (hd : ∀ x, a = some x → 0 < cap → x.block ∉ S) : SlA k w' a n cap l :=
  ⟨h.len, h.le, h.most, h.nil, fun h0 => by
    obtain ⟨b, off, rfl, hc⟩ := h.cells h0
    exact ⟨b, off, rfl, fun i hi => hk.cell (p := ⟨b, off + i, none⟩) (hd ⟨b, off, none⟩ rfl h0) (hc i hi)⟩⟩
theorem SlA.later {k : IntKind} {w w' : World} {a : Option Addr} {n cap : Nat} {l : List Int} (h : SlA k w a n cap l) (hk : Below w.heap.size w w') : SlA k w' a n cap l :=
  h.keep (Kept.of_below hk (Nat.le_refl _) []) (fun _ _ => by simp)

theorem SlA.drew {k : IntKind} {w : World} {a : Option Addr} {n cap : Nat} {l : List Int} (h : SlA k w a n cap l) : SlA k w.drew a n cap l := h.keep (Kept.refl [] w).drew (fun _ _ => by simp)
theorem SlA.drewN {k : IntKind} {w : World} {a : Option Addr} {n cap : Nat} {l : List Int} (h : SlA k w a n cap l) (q : Nat) : SlA k (w.drewN q) a n cap l := h.keep ((Kept.refl [] w).drewN q) (fun _ _ => by simp)
theorem getD_map_some {k : IntKind} {l : List Int} {j : Nat} (hj : j < l.length) : (l.map (Value.int k))[j]? = some (Value.int k (l.getD j 0)) := by simp [List.getD, hj]

/-- what it yields as an append's second argument -/
theorem SlA.src {P : Program} {k : IntKind} {w : World} {a : Option Addr} {n cap : Nat} {l : List Int} (h : SlA k w a n cap l) {t e : TypeId} (ht : P.underlying t = some (.slice e)) :
    Src P 1 t (.slice a n cap) n (ints k l) w := by
  have h1 : ∀ u ∈ ints k l, u.oneCell' = true := by
    intro u hu
    obtain ⟨_, _, rfl⟩ := List.mem_map.1 hu
    rfl
  have hl : (ints k l).length = n * 1 := by simp [ints, h.len]
  cases a with
  | none =>
    have h0 : cap = 0 := h.nil rfl
    have hle := h.le
    have hn : n = 0 := by omega
    have hll := h.len
    obtain rfl : l = [] := List.eq_nil_of_length_eq_zero (by omega)
    subst hn
    exact Src.ofNil w ht cap
  | some x =>
    refine Src.ofSlice w ht x n cap _ hl ?_ h1
    intro j u hu
    have hj : j < l.length := by simpa [ints] using (List.getElem?_eq_some_iff.1 hu).1
    rw [ints, getD_map_some hj] at hu
    obtain ⟨b, off, hx, hc⟩ := h.cells (by have := h.len; have := h.le; omega)
    obtain rfl : x = ⟨b, off, none⟩ := by injection hx
    have hadd : (⟨b, off, none⟩ : Addr).add j = ⟨b, off + j, none⟩ := by unfold Addr.add; split <;> simp_all
    rw [hadd, hc j (by have := h.len; omega)]
    exact hu

/-- a row of one's own is such a slice -/
theorem sl_of_own {w : World} {base : Nat} {e : TypeId} {k : IntKind} {v : Value} {n : Nat} {l : List Int} (h : w.ownsRow base e 1 v n (ints k l)) :
    ∃ a cap, v = .slice a n cap ∧ SlA k w a n cap l ∧ ∀ x, a = some x → v.ownBlock = some x.block := by
  have hl : l.length = n := by simpa [ints] using h.1
  rcases h.2 with ⟨rfl, rfl⟩ | ⟨g, cap, cur, rfl, hb, hg, hn, hm, hc, ht⟩
  · exact ⟨none, 0, rfl, ⟨hl, Nat.le_refl _, by unfold maxLen; omega, fun _ => rfl, fun h => by omega⟩, fun _ h => by cases h⟩
  · refine ⟨some ⟨g, 0, none⟩, cap, rfl, ⟨hl, hn, hm, (fun h => by cases h), fun _ => ⟨g, 0, rfl, fun i hi => ?_⟩⟩, fun x hx => by injection hx with hx; subst hx; rfl⟩
    rw [cell_of_row w g _ cur e (0, 0) hg]
    have : (ints k l)[i]? = cur[0 + i]? := by rw [← ht, List.getElem?_take]; simp; intro h; omega
    rw [← this, ints, getD_map_some (by omega)]

/-- a piece of such a slice, from its head on -/
theorem SlA.take {k : IntKind} {w : World} {a : Option Addr} {n cap : Nat} {l : List Int} (h : SlA k w a n cap l) (m : Nat) (hm : m ≤ n) : SlA k w a m cap (l.take m) :=
  ⟨by simp [h.len, hm], Nat.le_trans hm h.le, h.most, h.nil, fun h0 => by
    obtain ⟨b, off, rfl, hc⟩ := h.cells h0
    refine ⟨b, off, rfl, fun i hi => ?_⟩
    rw [hc i (by omega)]
    simp [List.getD, hi]⟩
/-- where the capacity ends at once the address stays; else it is moved -/
theorem SlA.drop_end {k : IntKind} {w : World} {a : Option Addr} {n cap : Nat} {l : List Int} (h : SlA k w a n cap l) (m : Nat) (hm : m ≤ n) (he : cap = m) : SlA k w a (n - m) 0 (l.drop m) :=
  ⟨by simp [h.len], (by have := h.le; omega), by simp [maxLen], fun _ => rfl, fun h0 => by omega⟩
theorem SlA.drop {k : IntKind} {w : World} {b off : Nat} {n cap : Nat} {l : List Int} (h : SlA k w (some ⟨b, off, none⟩) n cap l) (m : Nat) (hm : m ≤ n) (he : cap ≠ m) : SlA k w (some ⟨b, off + m, none⟩) (n - m) (cap - m) (l.drop m) :=
  ⟨by simp [h.len], (by have := h.le; omega), (by have := h.most; omega), (fun h => by cases h), fun h0 => by
    obtain ⟨b', off', hb, hc⟩ := h.cells (by omega)
    injection hb with hb
    injection hb with hb1 hb2
    subst hb1 hb2
    refine ⟨b, off + m, rfl, fun i hi => ?_⟩
    rw [Nat.add_assoc, hc (m + i) (by omega)]
    simp [List.getD]⟩

theorem own_form {w : World} {base : Nat} {e : TypeId} {size : Nat} {v : Value} {n : Nat} {xs : List Value} (h : w.ownsRow base e size v n xs) : ∃ a cap, v = .slice a n cap := by
  rcases h.2 with ⟨rfl, rfl⟩ | ⟨g, cap, cur, rfl, _⟩
  · exact ⟨none, 0, rfl⟩
  · exact ⟨_, cap, rfl⟩
theorem ints_append (k : IntKind) (l r : List Int) : ints k (l ++ r) = ints k l ++ ints k r := List.map_append

/-! ### append, of whatever source, onto a row of one's own -/
section
variable {P : Program} (w : World)

theorem run_append_any (t tx ty : TypeId) (base : Nat) (e : TypeId) (i : TypeInfo) (z : Value) (bytes : Nat) (ht : P.underlying t = some (.slice e)) (hi : P.info? e = some i) (hz : i.zero = some z)
    (hsize : i.size = 1) (hby : i.bytes = bytes) (hzs : z.cells.size = 1)
    (v : Value) (n : Nat) (xs : List Value) (hown : w.ownsRow base e 1 v n xs) (x : Value) (m : Nat) (news : List Value) (hs : Src P 1 tx x m news w)
    (h63 : n + m ≤ maxLen) (hbytes : (n + m) * bytes ≤ 140737488355328) (hbase : base ≤ w.heap.size) :
    ∃ v' w', (Builtin.append_ #[t, tx] ty #[v, x]).run P w = .ok v' w' ∧ w'.ownsRow base e 1 v' (n + m) (xs ++ news) ∧ w.grownBy w' v.ownBlock ∧
      (v'.ownBlock = v.ownBlock ∨ v'.ownBlock = some w.heap.size) := by
  have hnl : news.length = m := by simpa using hs.newsLen
  have hxl : xs.length = n := by simpa using hown.1
  have h63' : ((n + m : Nat) : Int) ≤ 9223372036854775807 := by unfold maxLen at h63; omega
  have hs' : Src P i.size tx x m news w := by rw [hsize]; exact hs
  have grow : ∀ (b : Option Addr) (cap : Nat), cap < n + m → (Builtin.firstCells i.size n (.slice b n cap)).run P w.drew = .ok xs.toArray w.drew →
      ∃ v' w', (Builtin.append_ #[t, tx] ty #[.slice b n cap, x]).run P w = .ok v' w' ∧ w'.ownsRow base e 1 v' (n + m) (xs ++ news) ∧ w.grownBy w' (Value.ownBlock (.slice b n cap)) ∧
      (v'.ownBlock = Value.ownBlock (.slice b n cap) ∨ v'.ownBlock = some w.heap.size) := by
    intro b cap hlt hold
    have hr := run_append_grow_src (P := P) w t tx ty e i z ht hi hz b n cap xs hold x m news hs' hlt h63' (by rw [hby]; exact growslice_fits (by omega) hbytes)
    refine ⟨_, _, hr, ⟨by simp [hxl, hnl], .inr ⟨w.heap.size, _, _, rfl, hbase, heap_alloc_new w.drew _, grownCap_ge _ _ _ _, grownCap_le_maxLen _ _ _ _ h63, ?_, ?_⟩⟩, ⟨rfl, rfl, rfl, by simp, fun k hk _ => Below.heap_alloc w.drew _ k hk⟩, .inr rfl⟩
    · have hge := grownCap_ge w (n + m) cap e
      simp only [Array.size_append, List.size_toArray, size_zeroCells, hzs, List.length_append, hxl, hnl]
      omega
    · simp only [Array.toList_append, Nat.mul_one]
      rw [show n + m = (xs ++ news).length from by simp [hxl, hnl]]
      exact List.take_left
  rcases hown.2 with ⟨rfl, rfl⟩ | ⟨g, cap, cur, rfl, hbg, hg, hnc, hcm, hcs, htake⟩
  · obtain rfl : xs = [] := List.eq_nil_of_length_eq_zero (by omega)
    by_cases hm : m = 0
    · subst hm
      obtain rfl : news = [] := List.eq_nil_of_length_eq_zero (by omega)
      refine ⟨.slice none 0 0, w, ?_, World.ownsRow_nil w base e 1, ⟨rfl, rfl, rfl, Nat.le_refl _, fun _ _ _ => rfl⟩, .inl rfl⟩
      have hc := hs'.cells
      rcases hs.kind with ⟨e', hk⟩ | hk <;> simp [Builtin.append_, run_underlying ht, run_underlying hk, sizeOf, typeInfo, hi, hs.len, hc]
    · exact grow none 0 (by omega) (run_firstCells_none w.drew i.size 0 0 0)
  · by_cases hroom : n + m ≤ cap
    · have hcell : ∀ j, w.cell? ⟨g, j, none⟩ = cur[j]? := fun j => cell_of_row w g j cur e (0, 0) hg
      have hfr : ∀ j, w.frozen? ⟨g, j, none⟩ = false := fun j => by simp [World.frozen?, hg]
      have hr := run_append_room_src (P := P) w t tx ty e i ht hi g 0 n cap x m news hs' hroom
        (fun j hj => by rw [hcell, hsize]; rw [Array.getElem?_eq_getElem (by rw [hcs]; omega)]; rfl) (fun j hj => hfr _)
      have hst := hr
      rw [hsize] at hr
      simp only [Nat.zero_add, Nat.mul_one] at hr
      have hsr : w.setCells g n news = w.setRow g (cur.toList.take n ++ news ++ cur.toList.drop (n + news.length)).toArray := by
        have h1 := run_append_room_src (P := P) w t tx ty e i ht hi g 0 n cap x m news hs' hroom
          (fun j hj => by rw [hcell, hsize]; rw [Array.getElem?_eq_getElem (by rw [hcs]; omega)]; rfl) (fun j hj => hfr _)
        have h2 := run_storeCells_at P g n e news 0 cur w hg (by omega) hs.one
        have h3 := run_storeCells_cells (P := P) g n news 0 w (fun j hj => by rw [hcell]; rw [Array.getElem?_eq_getElem (by rw [hcs]; omega)]; rfl) (fun j hj => hfr _) hs.one
        simp only [Nat.add_zero] at h2 h3
        rw [h2] at h3
        injection h3 with _ h3
        exact h3.symm
      rw [hsr] at hr
      refine ⟨_, _, hr, ⟨by simp [hxl, hnl], .inr ⟨g, cap, _, rfl, hbg, setRow_heap w g cur _ e _ hg, hroom, hcm, ?_, ?_⟩⟩, ⟨rfl, rfl, rfl, by simp, fun k _ hk => setRow_other w g k _ (fun e => hk (by simp [Value.ownBlock, e]))⟩, .inl rfl⟩
      · simp only [List.size_toArray, List.length_append, List.length_take, List.length_drop, Array.length_toList]
        omega
      · have ht' : cur.toList.take n = xs := by simpa using htake
        simp only [Nat.mul_one]
        rw [ht', show n + m = (xs ++ news).length from by simp [hxl, hnl]]
        exact List.take_left
    · refine grow (some ⟨g, 0, none⟩) cap (by omega) ?_
      exact run_firstCells_some w.drew i.size n ⟨g, 0, none⟩ n cap xs (by rw [hxl, hsize]; omega) (by have := hown.cells (g := g) rfl; simpa using this)

theorem wp_append_any {o : Oper} {a : Act} {K : Act → World → Prop} {Q : Exit → Act → World → Prop} (s x : Operand) (t tx : TypeId)
    (ho : o.op = .call { callee := .builtin .append, args := #[s, x], argTypes := #[t, tx] })
    (base : Nat) (e : TypeId) (i : TypeInfo) (z : Value) (bytes : Nat) (ht : P.underlying t = some (.slice e)) (hi : P.info? e = some i) (hz : i.zero = some z)
    (hsize : i.size = 1) (hby : i.bytes = bytes) (hzs : z.cells.size = 1)
    (v : Value) (n : Nat) (xs : List Value) (hsv : a.eval s = v) (hown : w.ownsRow base e 1 v n xs) (xv : Value) (hx : a.eval x = xv) (m : Nat) (news : List Value) (hs : Src P 1 tx xv m news w)
    (h63 : n + m ≤ maxLen) (hbytes : (n + m) * bytes ≤ 140737488355328) (hbase : base ≤ w.heap.size)
    (h : ∀ a' cap' w', w'.ownsRow base e 1 (.slice a' (n + m) cap') (n + m) (xs ++ news) → w.grownBy w' v.ownBlock → (Value.ownBlock (.slice a' (n + m) cap') = v.ownBlock ∨ Value.ownBlock (.slice a' (n + m) cap') = some w.heap.size) → K (a.put o.dst (.slice a' (n + m) cap')) w') : o.wp P a w K Q := by
  obtain ⟨v', w', hr, h2, h3, h4⟩ := run_append_any (P := P) w t tx o.type base e i z bytes ht hi hz hsize hby hzs v n xs hown xv m news hs h63 hbytes hbase
  unfold Oper.wp execOp
  obtain ⟨a', cap', rfl⟩ := own_form h2
  simp only [ho, resolve, invoke, builtin, Sem.run_bind, Sem.run_pure, Result.andThen_ok, List.map_toArray, List.map_cons, List.map_nil, hsv, hx, hr]
  exact h a' cap' w' h2 h3 h4

theorem wpList_append_any {ops : Array Oper} {rest : List Oper} {o : Oper} {a : Act} {Q : Exit → Act → World → Prop} (hgd : o.guard = none) (s x : Operand) (t tx : TypeId)
    (ho : o.op = .call { callee := .builtin .append, args := #[s, x], argTypes := #[t, tx] })
    (base : Nat) (e : TypeId) (i : TypeInfo) (z : Value) (bytes : Nat) (ht : P.underlying t = some (.slice e)) (hi : P.info? e = some i) (hz : i.zero = some z)
    (hsize : i.size = 1) (hby : i.bytes = bytes) (hzs : z.cells.size = 1)
    (v : Value) (n : Nat) (xs : List Value) (hsv : a.eval s = v) (hown : w.ownsRow base e 1 v n xs) (xv : Value) (hx : a.eval x = xv) (m : Nat) (news : List Value) (hs : Src P 1 tx xv m news w)
    (h63 : n + m ≤ maxLen) (hbytes : (n + m) * bytes ≤ 140737488355328) (hbase : base ≤ w.heap.size)
    (h : ∀ a' cap' w', w'.ownsRow base e 1 (.slice a' (n + m) cap') (n + m) (xs ++ news) → w.grownBy w' v.ownBlock → (Value.ownBlock (.slice a' (n + m) cap') = v.ownBlock ∨ Value.ownBlock (.slice a' (n + m) cap') = some w.heap.size) → wpList P ops Q rest (a.put o.dst (.slice a' (n + m) cap')) w') : wpList P ops Q (o :: rest) a w :=
  wpList_plain hgd fun _ hK => wp_append_any w s x t tx ho base e i z bytes ht hi hz hsize hby hzs v n xs hsv hown xv hx m news hs h63 hbytes hbase fun a' cap' w' h2 h3 h4 => hK _ _ (h a' cap' w' h2 h3 h4)

theorem step_append_any {ops : Array Oper} {o : Oper} {a : Act} {K : Act → World → Prop} {Q : Exit → Act → World → Prop} {E : Prop} (hgd : o.guard = none) (s x : Operand) (t tx : TypeId)
    (ho : o.op = .call { callee := .builtin .append, args := #[s, x], argTypes := #[t, tx] })
    (base : Nat) (e : TypeId) (i : TypeInfo) (z : Value) (bytes : Nat) (ht : P.underlying t = some (.slice e)) (hi : P.info? e = some i) (hz : i.zero = some z)
    (hsize : i.size = 1) (hby : i.bytes = bytes) (hzs : z.cells.size = 1)
    (v : Value) (n : Nat) (xs : List Value) (hsv : a.eval s = v) (hown : w.ownsRow base e 1 v n xs) (xv : Value) (hx : a.eval x = xv) (m : Nat) (news : List Value) (hs : Src P 1 tx xv m news w)
    (h63 : n + m ≤ maxLen) (hbytes : (n + m) * bytes ≤ 140737488355328) (hbase : base ≤ w.heap.size)
    (h : ∀ a' cap' w', w'.ownsRow base e 1 (.slice a' (n + m) cap') (n + m) (xs ++ news) → w.grownBy w' v.ownBlock → (Value.ownBlock (.slice a' (n + m) cap') = v.ownBlock ∨ Value.ownBlock (.slice a' (n + m) cap') = some w.heap.size) → K (a.put o.dst (.slice a' (n + m) cap')) w') :
    if Region.wanted o (yielded ops a.tmps) = true then Oper.wp P o a w K Q else E := by
  have hw : Region.wanted o (yielded ops a.tmps) = true := by simp [Region.wanted, hgd]
  rw [if_pos hw]
  exact wp_append_any w s x t tx ho base e i z bytes ht hi hz hsize hby hzs v n xs hsv hown xv hx m news hs h63 hbytes hbase h
end

/-- a slice of integers that came in, as a slice that is read -/
theorem sl_of_row {k : IntKind} {w : World} {a : Option Addr} {len cap : Nat} {zs : List Int} (h : IsRow k w a len cap zs) : SlA k w a len cap (zs.take len) := by
  rcases h with ⟨h1, h2, h3, h4⟩ | ⟨x, hx, h1, h2, h3, h4, h5⟩
  · subst h1 h2 h3 h4
    exact ⟨rfl, Nat.le_refl _, by simp [maxLen], fun _ => rfl, fun h => by omega⟩
  · refine ⟨by simp; omega, h1, h2, (fun h => by rw [hx] at h; cases h), fun h0 => ?_⟩
    obtain ⟨b, off, rfl, hc⟩ := ints_at h4 (by omega)
    refine ⟨b, off, hx, fun i hi => ?_⟩
    rw [hc i (by omega)]
    congr 2
    simp [List.getD, hi]
theorem wf_of_row {k : IntKind} {w : World} {a : Option Addr} {len cap : Nat} {zs : List Int} (h : IsRow k w a len cap zs) : ∀ n ∈ zs.take len, (Lit.int k n).wf = true := by
  rcases h with ⟨h1, h2, h3, h4⟩ | ⟨x, hx, h1, h2, h3, h4, h5⟩
  · subst h4; simp
  · exact fun n hn => h5 n (List.mem_of_mem_take hn)

/-- the cells of a new block that holds integers -/
theorem sl_new (k : IntKind) (t : TypeId) (w : World) (c : List Int) (hm : c.length ≤ maxLen) : SlA k (w.alloc (.cells (ints k c).toArray t)) (some ⟨w.heap.size, 0, none⟩) c.length c.length c :=
  ⟨rfl, Nat.le_refl _, hm, (fun h => by cases h), fun h0 => ⟨w.heap.size, 0, rfl, fun i hi => by
    rw [World.cell?_alloc_at _ _ _ _ rfl, List.getElem?_toArray, Nat.zero_add, ints, getD_map_some hi]⟩⟩

end Go.Proofs.Ytahegkbdefhlpaa.mem
/-!   append, of whatever source, onto a row of one's own: elements of any size; where the row lies then is told. Within a fence, too. Imports nothing of the program.
-/
namespace Go.Proofs.Ytahegkbdefhlpaa.mem
open Go.RowKit aid
set_option linter.unusedVariables false
section
variable {P : Program} (w : World)

theorem run_append_sz (t tx ty : TypeId) (base : Nat) (e : TypeId) (i : TypeInfo) (z : Value) (sz bytes : Nat) (ht : P.underlying t = some (.slice e)) (hi : P.info? e = some i) (hz : i.zero = some z)
    (hsize : i.size = sz) (hsz : 0 < sz) (hby : i.bytes = bytes) (hzs : z.cells.size = sz)
    (v : Value) (n : Nat) (xs : List Value) (hown : w.ownsRow base e sz v n xs) (x : Value) (m : Nat) (news : List Value) (hs : Src P sz tx x m news w)
    (h63 : n + m ≤ maxLen) (hbytes : (n + m) * bytes ≤ 140737488355328) (hbase : base ≤ w.heap.size) :
    ∃ v' w', (Builtin.append_ #[t, tx] ty #[v, x]).run P w = .ok v' w' ∧ w'.ownsRow base e sz v' (n + m) (xs ++ news) ∧ w.grownBy w' v.ownBlock ∧
      (v'.ownBlock = v.ownBlock ∨ v'.ownBlock = some w.heap.size) := by
  have hnl : news.length = m * sz := by simpa using hs.newsLen
  have hxl : xs.length = n * sz := by simpa using hown.1
  have h63' : ((n + m : Nat) : Int) ≤ 9223372036854775807 := by unfold maxLen at h63; omega
  have hs' : Src P i.size tx x m news w := by rw [hsize]; exact hs
  have hlen : (xs ++ news).length = (n + m) * sz := by rw [List.length_append, hxl, hnl, Nat.add_mul]
  have grow : ∀ (b : Option Addr) (cap : Nat), cap < n + m → (Builtin.firstCells i.size n (.slice b n cap)).run P w.drew = .ok xs.toArray w.drew →
      ∃ v' w', (Builtin.append_ #[t, tx] ty #[.slice b n cap, x]).run P w = .ok v' w' ∧ w'.ownsRow base e sz v' (n + m) (xs ++ news) ∧ w.grownBy w' (Value.ownBlock (.slice b n cap)) ∧
      (v'.ownBlock = Value.ownBlock (.slice b n cap) ∨ v'.ownBlock = some w.heap.size) := by
    intro b cap hlt hold
    have hr := run_append_grow_src (P := P) w t tx ty e i z ht hi hz b n cap xs hold x m news hs' hlt h63' (by rw [hby]; exact growslice_fits (by omega) hbytes)
    refine ⟨_, _, hr, ⟨hlen, .inr ⟨w.heap.size, _, _, rfl, hbase, heap_alloc_new w.drew _, grownCap_ge _ _ _ _, grownCap_le_maxLen _ _ _ _ h63, ?_, ?_⟩⟩, ⟨rfl, rfl, rfl, by simp, fun k hk _ => Below.heap_alloc w.drew _ k hk⟩, .inr rfl⟩
    · have hge := grownCap_ge w (n + m) cap e
      simp only [Array.size_append, List.size_toArray, size_zeroCells, hzs]
      rw [← hlen, List.length_append, hxl, hnl] at *
      have : grownCap w (n + m) cap e = (n + m) + (grownCap w (n + m) cap e - (n + m)) := by omega
      generalize grownCap w (n + m) cap e - (n + m) = q at *
      rw [this, Nat.add_mul, Nat.add_mul]
    · simp only [Array.toList_append]
      rw [← hlen]
      exact List.take_left
  rcases hown.2 with ⟨rfl, rfl⟩ | ⟨g, cap, cur, rfl, hbg, hg, hnc, hcm, hcs, htake⟩
  · obtain rfl : xs = [] := List.eq_nil_of_length_eq_zero (by omega)
    by_cases hm : m = 0
    · subst hm
      obtain rfl : news = [] := List.eq_nil_of_length_eq_zero (by omega)
      refine ⟨.slice none 0 0, w, ?_, World.ownsRow_nil w base e sz, ⟨rfl, rfl, rfl, Nat.le_refl _, fun _ _ _ => rfl⟩, .inl rfl⟩
      have hc := hs'.cells
      rcases hs.kind with ⟨e', hk⟩ | hk <;> simp [Builtin.append_, run_underlying ht, run_underlying hk, sizeOf, typeInfo, hi, hs.len, hc]
    · exact grow none 0 (by omega) (run_firstCells_none w.drew i.size 0 0 0)
  · by_cases hroom : n + m ≤ cap
    · have hcell : ∀ j, w.cell? ⟨g, j, none⟩ = cur[j]? := fun j => cell_of_row w g j cur e (0, 0) hg
      have hfr : ∀ j, w.frozen? ⟨g, j, none⟩ = false := fun j => by simp [World.frozen?, hg]
      have hmul : n * sz + m * sz ≤ cap * sz := by rw [← Nat.add_mul]; exact Nat.mul_le_mul_right _ hroom
      have hr := run_append_room_src (P := P) w t tx ty e i ht hi g 0 n cap x m news hs' hroom
        (fun j hj => by rw [hcell, hsize]; rw [Array.getElem?_eq_getElem (by rw [hcs]; omega)]; rfl) (fun j hj => hfr _)
      rw [hsize] at hr
      simp only [Nat.zero_add] at hr
      have hsr : w.setCells g (n * sz) news = w.setRow g (cur.toList.take (n * sz) ++ news ++ cur.toList.drop (n * sz + news.length)).toArray := by
        have h2 := run_storeCells_at P g (n * sz) e news 0 cur w hg (by omega) hs.one
        have h3 := run_storeCells_cells (P := P) g (n * sz) news 0 w (fun j hj => by rw [hcell]; rw [Array.getElem?_eq_getElem (by rw [hcs]; omega)]; rfl) (fun j hj => hfr _) hs.one
        simp only [Nat.add_zero] at h2 h3
        rw [h2] at h3
        injection h3 with _ h3
        exact h3.symm
      rw [hsr] at hr
      refine ⟨_, _, hr, ⟨hlen, .inr ⟨g, cap, _, rfl, hbg, setRow_heap w g cur _ e _ hg, hroom, hcm, ?_, ?_⟩⟩, ⟨rfl, rfl, rfl, by simp, fun k _ hk => setRow_other w g k _ (fun e => hk (by simp [Value.ownBlock, e]))⟩, .inl rfl⟩
      · simp only [List.size_toArray, List.length_append, List.length_take, List.length_drop, Array.length_toList]
        omega
      · simp only
        rw [htake, ← hlen]
        exact List.take_left
    · refine grow (some ⟨g, 0, none⟩) cap (by omega) ?_
      exact run_firstCells_some w.drew i.size n ⟨g, 0, none⟩ n cap xs (by rw [hxl, hsize]) (by have := hown.cells (g := g) rfl; simpa using this)

/-- within a fence -/
theorem wpListIn_append_sz {F : Fence} {q : Nat} {ops : Array Oper} {rest : List Oper} {o : Oper} {a : Act} {Q : Exit → Act → World → Prop}
    (hg : o.guard = none) (s x : Operand) (t tx : TypeId) (hop : o.op = Op.call { callee := Callee.builtin Builtin.append, args := #[s, x], argTypes := #[t, tx] })
    (base : Nat) (e : TypeId) (i : TypeInfo) (z : Value) (sz bytes : Nat) (ht : P.underlying t = some (.slice e)) (hi : P.info? e = some i) (hz : i.zero = some z)
    (hsize : i.size = sz) (hsz : 0 < sz) (hby : i.bytes = bytes) (hzs : z.cells.size = sz)
    (v : Value) (n : Nat) (xs : List Value) (hsv : a.eval s = v) (hown : w.ownsRow base e sz v n xs) (xv : Value) (hx : a.eval x = xv) (m : Nat) (news : List Value) (hs : Src P sz tx xv m news w)
    (h63 : n + m ≤ maxLen) (hbytes : (n + m) * bytes ≤ 140737488355328) (hbase : base ≤ w.heap.size)
    (hK : ∀ a' cap' w', w'.ownsRow base e sz (.slice a' (n + m) cap') (n + m) (xs ++ news) → w.grownBy w' v.ownBlock → (Value.ownBlock (.slice a' (n + m) cap') = v.ownBlock ∨ Value.ownBlock (.slice a' (n + m) cap') = some w.heap.size) → wpListIn F q P ops Q rest (a.put o.dst (.slice a' (n + m) cap')) w') :
    wpListIn F q P ops Q (o :: rest) a w := by
  refine wpListIn_plain hg fun K hK' => ?_
  obtain ⟨v', w', hrun, r1, r2, r3⟩ := run_append_sz (P := P) w t tx o.type base e i z sz bytes ht hi hz hsize hsz hby hzs v n xs hown xv m news hs h63 hbytes hbase
  obtain ⟨a', cap', rfl⟩ := own_form r1
  unfold Oper.wpIn
  refine ⟨?_, ?_⟩
  · simp [Oper.about, hop, resolve, Target.leads, Sem.run_pure]
  · rw [Oper.semAt_plain F _ _ (by rw [hop]; intro c hc'; cases hc')]
    simp [execOp, hop, resolve, invoke, builtin, hsv, hx, hrun, Result.andThen]
    exact hK' _ _ (hK a' cap' w' r1 r2 r3)
theorem wpList_append_sz {ops : Array Oper} {rest : List Oper} {o : Oper} {a : Act} {Q : Exit → Act → World → Prop} (hgd : o.guard = none) (s x : Operand) (t tx : TypeId)
    (ho : o.op = .call { callee := .builtin .append, args := #[s, x], argTypes := #[t, tx] })
    (base : Nat) (e : TypeId) (i : TypeInfo) (z : Value) (sz bytes : Nat) (ht : P.underlying t = some (.slice e)) (hi : P.info? e = some i) (hz : i.zero = some z)
    (hsize : i.size = sz) (hsz : 0 < sz) (hby : i.bytes = bytes) (hzs : z.cells.size = sz)
    (v : Value) (n : Nat) (xs : List Value) (hsv : a.eval s = v) (hown : w.ownsRow base e sz v n xs) (xv : Value) (hx : a.eval x = xv) (m : Nat) (news : List Value) (hs : Src P sz tx xv m news w)
    (h63 : n + m ≤ maxLen) (hbytes : (n + m) * bytes ≤ 140737488355328) (hbase : base ≤ w.heap.size)
    (h : ∀ a' cap' w', w'.ownsRow base e sz (.slice a' (n + m) cap') (n + m) (xs ++ news) → w.grownBy w' v.ownBlock → (Value.ownBlock (.slice a' (n + m) cap') = v.ownBlock ∨ Value.ownBlock (.slice a' (n + m) cap') = some w.heap.size) → wpList P ops Q rest (a.put o.dst (.slice a' (n + m) cap')) w') : wpList P ops Q (o :: rest) a w := by
  refine wpList_plain hgd fun K hK => ?_
  obtain ⟨v', w', hr, h2, h3, h4⟩ := run_append_sz (P := P) w t tx o.type base e i z sz bytes ht hi hz hsize hsz hby hzs v n xs hown xv m news hs h63 hbytes hbase
  unfold Oper.wp execOp
  obtain ⟨a', cap', rfl⟩ := own_form h2
  simp only [ho, resolve, invoke, builtin, Sem.run_bind, Sem.run_pure, Result.andThen_ok, List.map_toArray, List.map_cons, List.map_nil, hsv, hx, hr]
  exact hK _ _ (h a' cap' w' h2 h3 h4)
end
end Go.Proofs.Ytahegkbdefhlpaa.mem
/-!   Rows of one's own: what keeps them. Imports nothing of the program.
-/
namespace Go.Proofs.Ytahegkbdefhlpaa.mem
open Go.RowKit aid
set_option linter.unusedVariables false

theorem al {w : World} (o : Obj) : Below w.heap.size w (w.alloc o) := (Below.refl _ _).alloc (Nat.le_refl _) _
theorem own_step {W W' : World} {base : Nat} {e : TypeId} {size : Nat} {v : Value} {n : Nat} {xs : List Value} (ho : W.ownsRow base e size v n xs) (h : ∀ k o, v.ownBlock = some k → W.heap[k]? = some o → W'.heap[k]? = some o) : W'.ownsRow base e size v n xs := by
  refine ⟨ho.1, ?_⟩
  rcases ho.2 with hn | ⟨g, cap, cur, rfl, hb, hgg, rest⟩
  · exact .inl hn
  · exact .inr ⟨g, cap, cur, rfl, hb, h g _ rfl hgg, rest⟩
theorem own_later {W W' : World} {base : Nat} {e : TypeId} {size : Nat} {v : Value} {n : Nat} {xs : List Value} (ho : W.ownsRow base e size v n xs) (h : Below W.heap.size W W') : W'.ownsRow base e size v n xs :=
  own_step ho (fun k o _ hk => (h.block k (lt_of_block hk)).trans hk)
theorem own_in {W : World} {base : Nat} {e : TypeId} {size : Nat} {v : Value} {n : Nat} {xs : List Value} (ho : W.ownsRow base e size v n xs) {k : Nat} (hk : v.ownBlock = some k) : k < W.heap.size ∧ base ≤ k := by
  rcases ho.2 with ⟨rfl, _⟩ | ⟨g, cap, cur, rfl, hb, hgg, rest⟩
  · cases hk
  · cases hk; exact ⟨lt_of_block hgg, hb⟩
theorem below_grown {w w1 : World} {v : Value} {B : Nat} (hg : w.grownBy w1 v.ownBlock) (hB : B ≤ w.heap.size) (hv : ∀ k, v.ownBlock = some k → B ≤ k) : Below B w w1 :=
  ⟨hg.os, hg.tape, hg.output, hg.size, fun k hk => hg.block k (by omega) (fun e => by have := hv k e.symm; omega)⟩
theorem info_split {o : Option TypeInfo} {z : Value} {a b : Nat} (h : o.map (fun i => (i.zero, i.size, i.bytes)) = some (some z, a, b)) : ∃ i, o = some i ∧ i.zero = some z ∧ i.size = a ∧ i.bytes = b := by
  cases o with
  | none => simp at h
  | some i => simp at h; exact ⟨i, rfl, h.1, h.2.1, h.2.2⟩
section
variable {P : Program} (w : World)
/-- append as a step of a region that draws its order: elements of any size -/
theorem step_append_sz {ops : Array Oper} {o : Oper} {a : Act} {K : Act → World → Prop} {Q : Exit → Act → World → Prop} {E : Prop} (hgd : o.guard = none) (s x : Operand) (t tx : TypeId)
    (ho : o.op = .call { callee := .builtin .append, args := #[s, x], argTypes := #[t, tx] })
    (base : Nat) (e : TypeId) (i : TypeInfo) (z : Value) (sz bytes : Nat) (ht : P.underlying t = some (.slice e)) (hi : P.info? e = some i) (hz : i.zero = some z)
    (hsize : i.size = sz) (hsz : 0 < sz) (hby : i.bytes = bytes) (hzs : z.cells.size = sz)
    (v : Value) (n : Nat) (xs : List Value) (hsv : a.eval s = v) (hown : w.ownsRow base e sz v n xs) (xv : Value) (hx : a.eval x = xv) (m : Nat) (news : List Value) (hs : Src P sz tx xv m news w)
    (h63 : n + m ≤ maxLen) (hbytes : (n + m) * bytes ≤ 140737488355328) (hbase : base ≤ w.heap.size)
    (h : ∀ a' cap' w', w'.ownsRow base e sz (.slice a' (n + m) cap') (n + m) (xs ++ news) → w.grownBy w' v.ownBlock → (Value.ownBlock (.slice a' (n + m) cap') = v.ownBlock ∨ Value.ownBlock (.slice a' (n + m) cap') = some w.heap.size) → K (a.put o.dst (.slice a' (n + m) cap')) w') :
    if Region.wanted o (yielded ops a.tmps) = true then Oper.wp P o a w K Q else E := by
  have hw : Region.wanted o (yielded ops a.tmps) = true := by simp [Region.wanted, hgd]
  rw [if_pos hw]
  obtain ⟨v', w', hr, h2, h3, h4⟩ := run_append_sz (P := P) w t tx o.type base e i z sz bytes ht hi hz hsize hsz hby hzs v n xs hown xv m news hs h63 hbytes hbase
  unfold Oper.wp execOp
  obtain ⟨a', cap', rfl⟩ := own_form h2
  simp only [ho, resolve, invoke, builtin, Sem.run_bind, Sem.run_pure, Result.andThen_ok, List.map_toArray, List.map_cons, List.map_nil, hsv, hx, hr]
  exact h a' cap' w' h2 h3 h4
end
end Go.Proofs.Ytahegkbdefhlpaa.mem
/-!   Slices with room behind them, that lead into a row of one's own anywhere; append onto them. Imports nothing of the program.
-/
namespace Go.Proofs.Ytahegkbdefhlpaa.mem
open Go.RowKit aid
set_option linter.unusedVariables false

structure SlR (w : World) (e : TypeId) (sz : Nat) (a : Option Addr) (n cap : Nat) (xs : List Value) : Prop where
  len : xs.length = n * sz
  le : n ≤ cap
  most : cap ≤ maxLen
  rest : 0 < cap → ∃ g off cur, a = some ⟨g, off, none⟩ ∧ w.heap[g]? = some (.cells cur e (0, 0)) ∧ off + cap * sz ≤ cur.size ∧ ∀ j, j < n * sz → cur[off + j]? = xs[j]?
/-- the block that it may write -/
def blk (a : Option Addr) (cap : Nat) : List Nat := if cap = 0 then [] else a.toList.map (·.block)
theorem blk_zero (a : Option Addr) : blk a 0 = [] := rfl
theorem blk_some (g off cap : Nat) (h : 0 < cap) : blk (some ⟨g, off, none⟩) cap = [g] := by unfold blk; rw [if_neg (by omega)]; rfl
theorem SlR.nil (w : World) (e : TypeId) (sz : Nat) : SlR w e sz none 0 0 [] := ⟨by simp, Nat.le_refl _, by simp [maxLen], fun h => by omega⟩
theorem SlR.keep {w w' : World} {e : TypeId} {sz : Nat} {a : Option Addr} {n cap : Nat} {xs : List Value} (h : SlR w e sz a n cap xs) {S : List Nat} (hk : Kept S w w') (hd : ∀ b ∈ blk a cap, b ∉ S) : SlR w' e sz a n cap xs :=
  ⟨h.len, h.le, h.most, fun h0 => by
    obtain ⟨g, off, cur, rfl, hg, h1, h2⟩ := h.rest h0
    exact ⟨g, off, cur, rfl, hk.heap (hd g (by rw [blk_some _ _ _ h0]; simp)) hg, h1, h2⟩⟩
theorem SlR.later {w w' : World} {e : TypeId} {sz : Nat} {a : Option Addr} {n cap : Nat} {xs : List Value} (h : SlR w e sz a n cap xs) (hk : Below w.heap.size w w') : SlR w' e sz a n cap xs :=
  h.keep (Kept.of_below hk (Nat.le_refl _) []) (fun _ _ => by simp)
theorem SlR.lt {w : World} {e : TypeId} {sz : Nat} {a : Option Addr} {n cap : Nat} {xs : List Value} (h : SlR w e sz a n cap xs) : ∀ b ∈ blk a cap, b < w.heap.size ∧ ∃ cur, w.heap[b]? = some (.cells cur e (0, 0)) := by
  intro b hb
  by_cases h0 : cap = 0
  · subst h0; simp [blk_zero] at hb
  · obtain ⟨g, off, cur, rfl, hg, _⟩ := h.rest (by omega)
    rw [blk_some _ _ _ (by omega)] at hb
    simp at hb
    subst hb
    exact ⟨lt_of_block hg, cur, hg⟩
/-- the cells of it -/
theorem SlR.cell {w : World} {e : TypeId} {sz : Nat} {a : Option Addr} {n cap : Nat} {xs : List Value} (h : SlR w e sz a n cap xs) (h0 : 0 < cap) : ∃ g off, a = some ⟨g, off, none⟩ ∧ ∀ j, j < n * sz → w.cell? ⟨g, off + j, none⟩ = xs[j]? := by
  obtain ⟨g, off, cur, rfl, hg, h1, h2⟩ := h.rest h0
  exact ⟨g, off, rfl, fun j hj => by rw [cell_of_row w g _ _ _ (0, 0) hg]; exact h2 j hj⟩
/-- a piece of it, with some of its room: where it has room, its address is moved -/
theorem SlR.sub {w : World} {e : TypeId} {sz : Nat} {g off n cap : Nat} {xs : List Value} (h : SlR w e sz (some ⟨g, off, none⟩) n cap xs) (b f r : Nat) (hbf : b ≤ f) (hfn : f ≤ n) (hfr : f ≤ r) (hr : r ≤ cap) (hbr : b < r) :
    SlR w e sz (some ⟨g, off + b * sz, none⟩) (f - b) (r - b) ((xs.take (f * sz)).drop (b * sz)) := by
  have hm1 : b * sz ≤ f * sz := Nat.mul_le_mul_right _ hbf
  have hm2 : f * sz ≤ n * sz := Nat.mul_le_mul_right _ hfn
  have hm3 : r * sz ≤ cap * sz := Nat.mul_le_mul_right _ hr
  have hsb : (f - b) * sz = f * sz - b * sz := Nat.sub_mul _ _ _
  have hsr : (r - b) * sz = r * sz - b * sz := Nat.sub_mul _ _ _
  have hm4 : b * sz ≤ r * sz := Nat.mul_le_mul_right _ (by omega)
  refine ⟨?_, by omega, by have := h.most; omega, fun _ => ?_⟩
  · have := h.len
    rw [List.length_drop, List.length_take, hsb]
    omega
  · obtain ⟨g', off', cur, hx, hg, h1, h2⟩ := h.rest (by omega)
    injection hx with hx
    injection hx with hx1 hx2
    subst hx1 hx2
    refine ⟨g, off + b * sz, cur, rfl, hg, by omega, fun j hj => ?_⟩
    rw [Nat.add_assoc, h2 (b * sz + j) (by omega), List.getElem?_drop, List.getElem?_take, if_pos (by omega)]
/-- where it has none, whatever its address -/
theorem SlR.sub0 {w : World} {e : TypeId} {sz : Nat} (a : Option Addr) : SlR w e sz a 0 0 [] := ⟨by simp, Nat.le_refl _, by simp [maxLen], fun h => by omega⟩
/-- as what is appended -/
theorem SlR.src {P : Program} {w : World} {e : TypeId} {sz : Nat} {a : Option Addr} {n cap : Nat} {xs : List Value} {t : TypeId} (h : SlR w e sz a n cap xs) (ht : P.underlying t = some (.slice e)) (h1 : ∀ u ∈ xs, u.oneCell' = true) : Src P sz t (.slice a n cap) n xs w := by
  cases a with
  | none =>
    have hn : n = 0 := by
      by_cases h0 : cap = 0
      · have := h.le; omega
      · obtain ⟨g, off, cur, hx, _⟩ := h.rest (by omega)
        cases hx
    subst hn
    have hx0 : xs = [] := List.eq_nil_of_length_eq_zero (by have := h.len; omega)
    subst hx0
    exact Src.ofNil w ht cap
  | some x =>
    refine Src.ofSlice w ht x n cap _ h.len ?_ h1
    intro j u hu
    have hj : j < n * sz := by rw [← h.len]; exact (List.getElem?_eq_some_iff.1 hu).1
    have h0 : 0 < cap := by
      by_cases h0 : cap = 0
      · have := h.le; have : n = 0 := by omega
        subst this; omega
      · omega
    obtain ⟨g, off, hx, hc⟩ := h.cell h0
    obtain rfl : x = ⟨g, off, none⟩ := by injection hx
    have hadd : (⟨g, off, none⟩ : Addr).add j = ⟨g, off + j, none⟩ := by unfold Addr.add; split <;> simp_all
    rw [hadd, hc j hj, hu]
/-- a row of one's own is one -/
theorem slr_of_own {w : World} {base : Nat} {e : TypeId} {sz : Nat} {v : Value} {n : Nat} {xs : List Value} (h : w.ownsRow base e sz v n xs) : ∃ a cap, v = .slice a n cap ∧ SlR w e sz a n cap xs ∧ ∀ b ∈ blk a cap, base ≤ b := by
  rcases h.2 with ⟨rfl, rfl⟩ | ⟨g, cap, cur, rfl, hb, hg, hn, hm, hc, ht⟩
  · have := h.1
    have : xs = [] := List.eq_nil_of_length_eq_zero (by omega)
    subst this
    exact ⟨none, 0, rfl, SlR.nil w e sz, fun b hb => by simp [blk_zero] at hb⟩
  · refine ⟨some ⟨g, 0, none⟩, cap, rfl, ⟨by simpa using h.1, hn, hm, fun _ => ⟨g, 0, cur, rfl, hg, by omega, fun j hj => ?_⟩⟩, fun b hb' => ?_⟩
    · rw [← ht, List.getElem?_take, if_pos hj]
      simp
    · by_cases h0 : cap = 0
      · subst h0; simp [blk_zero] at hb'
      · rw [blk_some _ _ _ (by omega)] at hb'
        simp at hb'
        omega
section
variable {P : Program} (w : World)
theorem run_append_slr (t tx ty : TypeId) (e : TypeId) (i : TypeInfo) (z : Value) (sz bytes : Nat) (ht : P.underlying t = some (.slice e)) (hi : P.info? e = some i) (hz : i.zero = some z)
    (hsize : i.size = sz) (hsz : 0 < sz) (hby : i.bytes = bytes) (hzs : z.cells.size = sz)
    (a : Option Addr) (n cap : Nat) (xs : List Value) (hown : SlR w e sz a n cap xs) (x : Value) (m : Nat) (hm0 : 0 < m) (news : List Value) (hs : Src P sz tx x m news w)
    (h63 : n + m ≤ maxLen) (hbytes : (n + m) * bytes ≤ 140737488355328) :
    ∃ a' cap' w', (Builtin.append_ #[t, tx] ty #[.slice a n cap, x]).run P w = .ok (.slice a' (n + m) cap') w' ∧ SlR w' e sz a' (n + m) cap' (xs ++ news) ∧ Kept (blk a cap) w w' ∧
      ∀ b ∈ blk a' cap', b ∈ blk a cap ∨ w.heap.size ≤ b := by
  have hnl : news.length = m * sz := by simpa using hs.newsLen
  have hxl : xs.length = n * sz := hown.len
  have h63' : ((n + m : Nat) : Int) ≤ 9223372036854775807 := by unfold maxLen at h63; omega
  have hs' : Src P i.size tx x m news w := by rw [hsize]; exact hs
  have hlen : (xs ++ news).length = (n + m) * sz := by rw [List.length_append, hxl, hnl, Nat.add_mul]
  by_cases hroom : n + m ≤ cap
  · obtain ⟨g, off, cur, rfl, hg, h1, h2⟩ := hown.rest (by omega)
    have hcell : ∀ j, w.cell? ⟨g, j, none⟩ = cur[j]? := fun j => cell_of_row w g j cur e (0, 0) hg
    have hfr : ∀ j, w.frozen? ⟨g, j, none⟩ = false := fun j => by simp [World.frozen?, hg]
    have hmul : n * sz + m * sz ≤ cap * sz := by rw [← Nat.add_mul]; exact Nat.mul_le_mul_right _ hroom
    have hr := run_append_room_src (P := P) w t tx ty e i ht hi g off n cap x m news hs' hroom
      (fun j hj => by rw [hcell, hsize]; rw [Array.getElem?_eq_getElem (by omega)]; rfl) (fun j hj => hfr _)
    rw [hsize] at hr
    have hsr : w.setCells g (off + n * sz) news = w.setRow g (cur.toList.take (off + n * sz) ++ news ++ cur.toList.drop (off + n * sz + news.length)).toArray := by
      have h2 := run_storeCells_at P g (off + n * sz) e news 0 cur w hg (by omega) hs.one
      have h3 := run_storeCells_cells (P := P) g (off + n * sz) news 0 w (fun j hj => by rw [hcell]; rw [Array.getElem?_eq_getElem (by omega)]; rfl) (fun j hj => hfr _) hs.one
      simp only [Nat.add_zero] at h2 h3
      rw [h2] at h3
      injection h3 with _ h3
      exact h3.symm
    rw [hsr] at hr
    have hcap : 0 < cap := by omega
    refine ⟨_, _, _, hr, ⟨hlen, hroom, hown.most, fun _ => ⟨g, off, _, rfl, setRow_heap w g cur _ e _ hg, ?_, fun j hj => ?_⟩⟩, ⟨rfl, rfl, rfl, by simp, fun k _ hk => setRow_other w g k _ (fun e => hk (by rw [blk_some _ _ _ hcap]; simp [e]))⟩, fun b hb => .inl hb⟩
    · simp only [List.size_toArray, List.length_append, List.length_take, List.length_drop, Array.length_toList]
      omega
    · have hl1 : (cur.toList.take (off + n * sz)).length = off + n * sz := by rw [List.length_take, Array.length_toList]; omega
      rw [List.getElem?_toArray]
      rw [Nat.add_mul] at hj
      by_cases hjn : j < n * sz
      · rw [List.getElem?_append_left (by rw [List.length_append, hl1]; omega), List.getElem?_append_left (by rw [hl1]; omega), List.getElem?_append_left (by omega), ← h2 j hjn, List.getElem?_take, if_pos (by omega)]
        simp
      · rw [List.getElem?_append_left (by rw [List.length_append, hl1]; omega), List.getElem?_append_right (by rw [hl1]; omega), List.getElem?_append_right (by omega), hl1, hxl]
        congr 1
        omega
  · have hold : (Builtin.firstCells i.size n (.slice a n cap)).run P w.drew = .ok xs.toArray w.drew := by
      cases hc0 : cap with
      | zero =>
        have hn0 : n = 0 := by have := hown.le; omega
        subst hn0
        have hx0 : xs = [] := List.eq_nil_of_length_eq_zero (by omega)
        subst hx0
        cases a with
        | none => exact run_firstCells_none w.drew i.size 0 0 0
        | some y => exact run_firstCells_some w.drew i.size 0 y 0 0 [] (by simp) (fun j v hj => by simp at hj)
      | succ c =>
        obtain ⟨g, off, cur, rfl, hg, h1, h2⟩ := hown.rest (by omega)
        refine run_firstCells_some w.drew i.size n ⟨g, off, none⟩ n (c + 1) xs (by rw [hxl, hsize]) ?_
        intro j v hj
        have hjl : j < n * sz := by rw [← hxl]; exact (List.getElem?_eq_some_iff.1 hj).1
        have hadd : (⟨g, off, none⟩ : Addr).add j = ⟨g, off + j, none⟩ := by unfold Addr.add; split <;> simp_all
        rw [hadd]
        have := cell_of_row w g (off + j) cur e (0, 0) hg
        rw [h2 j hjl, hj] at this
        exact this
    have hr := run_append_grow_src (P := P) w t tx ty e i z ht hi hz a n cap xs hold x m news hs' (by omega) h63' (by rw [hby]; exact growslice_fits (by omega) hbytes)
    have hge := grownCap_ge w (n + m) cap e
    have hgm := grownCap_le_maxLen w (n + m) cap e h63
    refine ⟨_, _, _, hr, ⟨hlen, hge, hgm, fun _ => ⟨w.heap.size, 0, _, rfl, heap_alloc_new w.drew _, ?_, fun j hj => ?_⟩⟩, ⟨rfl, rfl, rfl, by simp, fun k hk _ => Below.heap_alloc w.drew _ k hk⟩, fun b hb => .inr ?_⟩
    · simp only [Array.size_append, List.size_toArray, size_zeroCells, hzs]
      rw [hlen]
      have : grownCap w (n + m) cap e = (n + m) + (grownCap w (n + m) cap e - (n + m)) := by omega
      generalize grownCap w (n + m) cap e - (n + m) = q at *
      rw [this, Nat.add_mul]
      omega
    · rw [Nat.zero_add, Array.getElem?_append_left (by simp only [List.size_toArray]; omega), List.getElem?_toArray]
    · rw [blk_some _ _ _ (by omega)] at hb
      simp at hb
      omega
/-- append as a step of a region that draws its order -/
theorem step_append_slr {ops : Array Oper} {o : Oper} {a : Act} {K : Act → World → Prop} {Q : Exit → Act → World → Prop} {E : Prop} (hgd : o.guard = none) (s x : Operand) (t tx : TypeId)
    (ho : o.op = .call { callee := .builtin .append, args := #[s, x], argTypes := #[t, tx] })
    (e : TypeId) (i : TypeInfo) (z : Value) (sz bytes : Nat) (ht : P.underlying t = some (.slice e)) (hi : P.info? e = some i) (hz : i.zero = some z)
    (hsize : i.size = sz) (hsz : 0 < sz) (hby : i.bytes = bytes) (hzs : z.cells.size = sz)
    (ad : Option Addr) (n cap : Nat) (xs : List Value) (hsv : a.eval s = .slice ad n cap) (hown : SlR w e sz ad n cap xs) (xv : Value) (hx : a.eval x = xv) (m : Nat) (hm0 : 0 < m) (news : List Value) (hs : Src P sz tx xv m news w)
    (h63 : n + m ≤ maxLen) (hbytes : (n + m) * bytes ≤ 140737488355328)
    (h : ∀ a' cap' w', SlR w' e sz a' (n + m) cap' (xs ++ news) → Kept (blk ad cap) w w' → (∀ b ∈ blk a' cap', b ∈ blk ad cap ∨ w.heap.size ≤ b) → K (a.put o.dst (.slice a' (n + m) cap')) w') :
    if Region.wanted o (yielded ops a.tmps) = true then Oper.wp P o a w K Q else E := by
  have hw : Region.wanted o (yielded ops a.tmps) = true := by simp [Region.wanted, hgd]
  rw [if_pos hw]
  obtain ⟨a', cap', w', hr, h2, h3, h4⟩ := run_append_slr (P := P) w t tx o.type e i z sz bytes ht hi hz hsize hsz hby hzs ad n cap xs hown xv m hm0 news hs h63 hbytes
  unfold Oper.wp execOp
  simp only [ho, resolve, invoke, builtin, Sem.run_bind, Sem.run_pure, Result.andThen_ok, List.map_toArray, List.map_cons, List.map_nil, hsv, hx, hr]
  exact h a' cap' w' h2 h3 h4
/-- append as a step of a region in its own order -/
theorem wpList_append_slr {ops : Array Oper} {rest : List Oper} {o : Oper} {a : Act} {Q : Exit → Act → World → Prop} (hgd : o.guard = none) (s x : Operand) (t tx : TypeId)
    (ho : o.op = .call { callee := .builtin .append, args := #[s, x], argTypes := #[t, tx] })
    (e : TypeId) (i : TypeInfo) (z : Value) (sz bytes : Nat) (ht : P.underlying t = some (.slice e)) (hi : P.info? e = some i) (hz : i.zero = some z)
    (hsize : i.size = sz) (hsz : 0 < sz) (hby : i.bytes = bytes) (hzs : z.cells.size = sz)
    (ad : Option Addr) (n cap : Nat) (xs : List Value) (hsv : a.eval s = .slice ad n cap) (hown : SlR w e sz ad n cap xs) (xv : Value) (hx : a.eval x = xv) (m : Nat) (hm0 : 0 < m) (news : List Value) (hs : Src P sz tx xv m news w)
    (h63 : n + m ≤ maxLen) (hbytes : (n + m) * bytes ≤ 140737488355328)
    (h : ∀ a' cap' w', SlR w' e sz a' (n + m) cap' (xs ++ news) → Kept (blk ad cap) w w' → (∀ b ∈ blk a' cap', b ∈ blk ad cap ∨ w.heap.size ≤ b) → wpList P ops Q rest (a.put o.dst (.slice a' (n + m) cap')) w') : wpList P ops Q (o :: rest) a w :=
  wpList_plain hgd fun _ hK => by
    obtain ⟨a', cap', w', hr, h2, h3, h4⟩ := run_append_slr (P := P) w t tx o.type e i z sz bytes ht hi hz hsize hsz hby hzs ad n cap xs hown xv m hm0 news hs h63 hbytes
    unfold Oper.wp execOp
    simp only [ho, resolve, invoke, builtin, Sem.run_bind, Sem.run_pure, Result.andThen_ok, List.map_toArray, List.map_cons, List.map_nil, hsv, hx, hr]
    exact hK _ _ (h a' cap' w' h2 h3 h4)
end
end Go.Proofs.Ytahegkbdefhlpaa.mem
/-!   Package duct: copies as a list; those that are under way, by number; what each call does.
-/
namespace Go.Proofs.Ytahegkbdefhlpaa.dc
open Go.RowKit aid
set_option linter.unusedVariables false
set_option linter.unusedSimpArgs false

/-- a copy: of what, put when, ended when, how; its bytes -/
structure Cp where
  f : Int
  a : Int
  e : Int
  k : Int
  raw : List Int
instance : Inhabited Cp := ⟨⟨0, 0, 0, 0, []⟩⟩
structure Dk where
  now : Int
  l : List Cp
def cpAt (l : List Cp) (i : Nat) : Cp := l.getD i default
/-- the numbers of those that are under way -/
def fly (l : List Cp) : List Nat := (List.range l.length).filter (fun i => decide ((cpAt l i).k = 0))
theorem mem_fly {l : List Cp} {i : Nat} : i ∈ fly l ↔ i < l.length ∧ (cpAt l i).k = 0 := by simp [fly]
theorem fly_rise (l : List Cp) : (fly l).Pairwise (· < ·) := List.Pairwise.filter _ List.pairwise_lt_range
theorem fly_len (l : List Cp) : (fly l).length ≤ l.length := by
  have := List.length_filter_le (fun i => decide ((cpAt l i).k = 0)) (List.range l.length)
  simpa [fly] using this
theorem fly_nil : fly [] = [] := rfl
theorem cpAt_lt {l : List Cp} {c : Cp} {i : Nat} (h : i < l.length) : cpAt (l ++ [c]) i = cpAt l i := by simp [cpAt, List.getD, List.getElem?_append_left h]
theorem cpAt_new (l : List Cp) (c : Cp) : cpAt (l ++ [c]) l.length = c := by simp [cpAt, List.getD]
theorem cpAt_set {l : List Cp} {i : Nat} (h : i < l.length) (c : Cp) (j : Nat) : cpAt (l.set i c) j = if i = j then c else cpAt l j := by
  simp only [cpAt, List.getD]
  rw [List.getElem?_set]
  by_cases e : i = j
  · rw [if_pos e, if_pos (by omega), if_pos e]; rfl
  · rw [if_neg e, if_neg e]
theorem fly_snoc (l : List Cp) (c : Cp) : fly (l ++ [c]) = if c.k = 0 then fly l ++ [l.length] else fly l := by
  unfold fly
  rw [List.length_append, List.length_singleton, List.range_succ, List.filter_append]
  have h1 : (List.range l.length).filter (fun i => decide ((cpAt (l ++ [c]) i).k = 0)) = (List.range l.length).filter (fun i => decide ((cpAt l i).k = 0)) := by
    apply List.filter_congr
    intro i hi
    rw [cpAt_lt (by simpa using hi)]
  rw [h1]
  by_cases h : c.k = 0
  · rw [if_pos h, List.filter_cons, cpAt_new, if_pos (by simpa using h)]; rfl
  · rw [if_neg h, List.filter_cons, cpAt_new, if_neg (by simpa using h)]; simp
theorem fly_set {l : List Cp} {i : Nat} (h : i < l.length) {c : Cp} (hc : c.k ≠ 0) : fly (l.set i c) = (fly l).filter (fun j => decide (j ≠ i)) := by
  unfold fly
  rw [List.length_set, List.filter_filter]
  apply List.filter_congr
  intro j hj
  rw [cpAt_set h]
  by_cases e : i = j
  · subst e; simp [hc]
  · have e' : j ≠ i := fun q => e q.symm
    simp [e, e']
/-- a number leaves a rising list -/
theorem rise_cut : ∀ (L : List Nat) (j : Nat) (h : j < L.length), L.Pairwise (· < ·) → L.filter (fun x => decide (x ≠ L[j])) = L.take j ++ L.drop (j + 1) := by
  intro L
  induction L with
  | nil => intro j h; simp at h
  | cons x L ih =>
    intro j h hp
    rw [List.pairwise_cons] at hp
    cases j with
    | zero =>
      simp only [List.getElem_cons_zero, List.take_zero, List.nil_append, List.drop_succ_cons, List.drop_zero]
      rw [List.filter_cons, if_neg (by simp)]
      apply List.filter_eq_self.2
      intro y hy
      have := hp.1 y hy
      simp; omega
    | succ j =>
      have hj : j < L.length := by simpa using h
      simp only [List.getElem_cons_succ, List.take_succ_cons, List.drop_succ_cons, List.cons_append]
      rw [List.filter_cons, if_pos (by have := hp.1 L[j] (List.getElem_mem hj); simp; omega), ih j hj hp.2]
/-- where a number stands in a rising list: as many are below it -/
theorem rise_at (L : List Nat) (hp : L.Pairwise (· < ·)) (i : Nat) (hi : i ∈ L) : ∃ j, ∃ h : j < L.length, L[j] = i := by
  obtain ⟨j, hj, e⟩ := List.mem_iff_getElem.1 hi
  exact ⟨j, hj, e⟩
def isF (x : Dk) (id : Int) : Prop := 0 ≤ id ∧ id.toNat ∈ fly x.l
instance (x : Dk) (id : Int) : Decidable (isF x id) := by unfold isF; exact inferInstance
/-- the errors -/
def whenE (x : Dk) (now : Int) : Int := if now < x.now ∨ 4611686018427387904 < now then 3 else 0
def whichE (x : Dk) (id now : Int) : Int := if whenE x now ≠ 0 then 3 else if isF x id then 0 else 10
def sendE (x : Dk) : Int := if 4096 ≤ (fly x.l).length then 4 else 0
def putE (x : Dk) (n : Nat) (now : Int) : Int := if whenE x now ≠ 0 then 3 else if 2096 < n then 9 else sendE x
def dblE (x : Dk) (id now : Int) : Int := if whichE x id now ≠ 0 then whichE x id now else sendE x
/-- one more -/
def sendX (x : Dk) (c : Cp) (now : Int) : Dk := if sendE x = 0 then ⟨now, x.l ++ [c]⟩ else x
def sendN (x : Dk) : Int := if sendE x = 0 then (x.l.length : Int) else 0
def newC (x : Dk) (raw : List Int) (now : Int) : Cp := ⟨x.l.length, now, 0, 0, raw⟩
def putX (x : Dk) (raw : List Int) (now : Int) : Dk := if putE x raw.length now = 0 then ⟨now, x.l ++ [newC x raw now]⟩ else x
def putN (x : Dk) (n : Nat) (now : Int) : Int := if putE x n now = 0 then (x.l.length : Int) else 0
def dblX (x : Dk) (id now : Int) : Dk := if dblE x id now = 0 then ⟨now, x.l ++ [cpAt x.l id.toNat]⟩ else x
def dblN (x : Dk) (id now : Int) : Int := if dblE x id now = 0 then (x.l.length : Int) else 0
def endC (c : Cp) (now k : Int) : Cp := ⟨c.f, c.a, now, k, c.raw⟩
def endL (x : Dk) (i : Nat) (now k : Int) : Dk := ⟨now, x.l.set i (endC (cpAt x.l i) now k)⟩
def endX (x : Dk) (id now k : Int) : Dk := if whichE x id now = 0 then endL x id.toNat now k else x
theorem whenE_or (x : Dk) (now : Int) : whenE x now = 0 ∨ whenE x now = 3 := by unfold whenE; split <;> simp
theorem when0 {x : Dk} {now : Int} : whenE x now = 0 ↔ x.now ≤ now ∧ now ≤ 4611686018427387904 := by
  unfold whenE
  split <;> constructor <;> intro h <;> first | omega | rfl
theorem whichE_or (x : Dk) (id now : Int) : (whichE x id now = 0 ∧ whenE x now = 0 ∧ isF x id) ∨ (whichE x id now = 3 ∧ whenE x now = 3) ∨ (whichE x id now = 10 ∧ whenE x now = 0 ∧ ¬ isF x id) := by
  unfold whichE
  rcases whenE_or x now with h | h
  · rw [h, if_neg (by simp)]
    by_cases q : isF x id
    · rw [if_pos q]; exact .inl ⟨rfl, rfl, q⟩
    · rw [if_neg q]; exact .inr (.inr ⟨rfl, rfl, q⟩)
  · rw [h, if_pos (by simp)]; exact .inr (.inl ⟨rfl, rfl⟩)
theorem sendE_or (x : Dk) : (sendE x = 0 ∧ (fly x.l).length < 4096) ∨ (sendE x = 4 ∧ 4096 ≤ (fly x.l).length) := by
  unfold sendE
  by_cases h : 4096 ≤ (fly x.l).length
  · rw [if_pos h]; exact .inr ⟨rfl, h⟩
  · rw [if_neg h]; exact .inl ⟨rfl, by omega⟩
/-- numbers stay within their limits -/
structure Ok (x : Dk) : Prop where
  now : 0 ≤ x.now ∧ x.now ≤ 4611686018427387904
theorem Ok.new : Ok ⟨0, []⟩ := ⟨by simp⟩
theorem fly_put (l : List Cp) (c : Cp) (hc : c.k = 0) : fly (l ++ [c]) = fly l ++ [l.length] := by rw [fly_snoc, if_pos hc]
theorem isF_lt {x : Dk} {id : Int} (h : isF x id) : id.toNat < x.l.length ∧ (id.toNat : Int) = id ∧ (cpAt x.l id.toNat).k = 0 := ⟨(mem_fly.1 h.2).1, by have := h.1; omega, (mem_fly.1 h.2).2⟩
theorem fly_end {x : Dk} {i : Nat} (hi : i ∈ fly x.l) (now k : Int) (hk : k ≠ 0) : ∃ j, ∃ h : j < (fly x.l).length, (fly x.l)[j] = i ∧ fly (endL x i now k).l = (fly x.l).take j ++ (fly x.l).drop (j + 1) := by
  obtain ⟨j, hj, e⟩ := rise_at _ (fly_rise x.l) i hi
  refine ⟨j, hj, e, ?_⟩
  unfold endL
  rw [fly_set (mem_fly.1 hi).1 (by simpa [endC] using hk), ← e]
  exact rise_cut _ j hj (fly_rise x.l)
theorem mem_fly_end {x : Dk} {i : Nat} (hi : i ∈ fly x.l) (now k : Int) (hk : k ≠ 0) (j : Nat) : j ∈ fly (endL x i now k).l ↔ j ∈ fly x.l ∧ j ≠ i := by
  unfold endL
  rw [fly_set (mem_fly.1 hi).1 (by simpa [endC] using hk)]
  simp
theorem cpAt_end {x : Dk} {i : Nat} (hi : i < x.l.length) (now k : Int) {j : Nat} (h : j ≠ i) : cpAt (endL x i now k).l j = cpAt x.l j := by
  unfold endL
  rw [cpAt_set hi, if_neg (fun e => h e.symm)]
/-- how many are below a number, in a rising list -/
theorem count_below : ∀ (L : List Nat) (j : Nat) (h : j < L.length), L.Pairwise (· < ·) → (L.map (fun i : Nat => (i : Int))).countP (fun y => decide (y < (L[j] : Int))) = j := by
  intro L
  induction L with
  | nil => intro j h; simp at h
  | cons x L ih =>
    intro j h hp
    rw [List.pairwise_cons] at hp
    cases j with
    | zero =>
      simp only [List.getElem_cons_zero, List.map_cons]
      rw [List.countP_eq_zero]
      intro y hy
      rcases List.mem_cons.1 hy with rfl | hy
      · simp
      · obtain ⟨z, hz, rfl⟩ := List.mem_map.1 hy
        have := hp.1 z hz
        simp; omega
    | succ j =>
      have hj : j < L.length := by simpa using h
      simp only [List.getElem_cons_succ, List.map_cons]
      rw [List.countP_cons_of_pos (by have := hp.1 L[j] (List.getElem_mem hj); simp; omega), ih j hj hp.2]
end Go.Proofs.Ytahegkbdefhlpaa.dc
/-!   Package duct: one in memory: rows, a map of slices; what is asked.
-/
namespace Go.Proofs.Ytahegkbdefhlpaa.dc
open Go.RowKit Go.Maps aid mem
attribute [local go_sem ↓] Go.wp_at_zero Go.wp_at_succ
set_option linter.unusedVariables false
set_option linter.unusedSimpArgs false

theorem bal {w : World} (o : Obj) : Below w.heap.size w (w.alloc o) := (Below.refl _ _).alloc (Nat.le_refl _) _
theorem cofr {w : World} {B : Nat} {cs : Array Value} {T : TypeId} (h : w.heap[B]? = some (.cells cs T (0, 0))) (i : Nat) (v : Value) (hv : cs[i]? = some v) : w.cell? ⟨B, i, none⟩ = some v := (cell_of_row w B i cs T (0, 0) h).trans hv
theorem fofr {w : World} {B : Nat} {cs : Array Value} {T : TypeId} (h : w.heap[B]? = some (.cells cs T (0, 0))) (i : Nat) : w.frozen? ⟨B, i, none⟩ = false := by simp [World.frozen?, h]
theorem typ_ne {w : World} {b c : Nat} {cs ds : Array Value} {T U : TypeId} (h : w.heap[b]? = some (.cells cs T (0, 0))) (k : w.heap[c]? = some (.cells ds U (0, 0))) (n : T ≠ U) : b ≠ c := by
  rintro rfl
  rw [h] at k
  simp at k
  exact n k.2
theorem info_u8 : (Try.prog.info? 5).map (fun i => (i.zero, i.size, i.bytes)) = some (some (.int .u8 0), 1, 1) := by kernel_rfl
theorem info_int : (Try.prog.info? 3).map (fun i => (i.zero, i.size, i.bytes)) = some (some (.int .i64 0), 1, 8) := by kernel_rfl
theorem info_fate : (Try.prog.info? 41).map (fun i => (i.zero, i.size, i.bytes)) = some (some (.agg #[.int .i64 0, .int .i64 0, .int .i64 0, .int .i64 0]), 4, 32) := by kernel_rfl
/-! ### fates as cells -/
def ftc (c : Cp) : List Value := [.int .i64 c.f, .int .i64 c.a, .int .i64 c.e, .int .i64 c.k]
def ftC (l : List Cp) : List Value := l.flatMap ftc
theorem ftC_len (l : List Cp) : (ftC l).length = l.length * 4 := by
  induction l with
  | nil => rfl
  | cons x l ih => simp only [ftC, ftc, List.flatMap_cons, List.length_append, List.length_cons, List.length_nil] at *; omega
theorem ftC_append (l r : List Cp) : ftC (l ++ r) = ftC l ++ ftC r := by simp [ftC]
theorem ftC_get (l : List Cp) : ∀ i, i < l.length → ∀ j, j < 4 → (ftC l)[i * 4 + j]? = (ftc (cpAt l i))[j]? := by
  induction l with
  | nil => intro i h; simp at h
  | cons x l ih =>
    intro i h j hj
    cases i with
    | zero =>
      have : ftC (x :: l) = ftc x ++ ftC l := rfl
      rw [this, Nat.zero_mul, Nat.zero_add, List.getElem?_append_left (by simpa [ftc] using hj)]
      rfl
    | succ i =>
      have := ih i (by simpa using h) j hj
      rw [show (i + 1) * 4 + j = i * 4 + j + 4 by omega]
      exact this
theorem ftC_set (l : List Cp) : ∀ i, i < l.length → ∀ (n k : Int), ((ftC l).set (i * 4 + 2) (.int .i64 n)).set (i * 4 + 3) (.int .i64 k) = ftC (l.set i (endC (cpAt l i) n k)) := by
  induction l with
  | nil => intro i h; simp at h
  | cons x l ih =>
    intro i h n k
    cases i with
    | zero => rfl
    | succ i =>
      have := ih i (by simpa using h) n k
      rw [show (i + 1) * 4 + 2 = i * 4 + 2 + 4 by omega, show (i + 1) * 4 + 3 = i * 4 + 3 + 4 by omega]
      show (Value.int .i64 x.f :: Value.int .i64 x.a :: Value.int .i64 x.e :: Value.int .i64 x.k :: (((ftC l).set (i * 4 + 2) (.int .i64 n)).set (i * 4 + 3) (.int .i64 k))) = _
      rw [this]; rfl
theorem ftC_one (l : List Cp) : ∀ u ∈ ftC l, u.oneCell' = true := by
  intro u hu
  simp only [ftC, List.mem_flatMap] at hu
  obtain ⟨x, _, hx⟩ := hu
  simp [ftc] at hx
  rcases hx with rfl | rfl | rfl | rfl <;> rfl
theorem ints_one (k : IntKind) (l : List Int) : ∀ u ∈ ints k l, u.oneCell' = true := by
  intro u hu
  obtain ⟨_, _, rfl⟩ := List.mem_map.1 hu
  rfl
/-- numbers as integers -/
def nms (L : List Nat) : List Int := L.map (fun i : Nat => (i : Int))
theorem nms_len (L : List Nat) : (nms L).length = L.length := by simp [nms]
theorem nms_append (L R : List Nat) : nms (L ++ R) = nms L ++ nms R := by simp [nms]
theorem nms_at (L : List Nat) (j : Nat) (h : j < L.length) : (nms L).getD j 0 = (L[j] : Int) := by simp [nms, List.getD, h]
/-! ### a map from numbers to slices -/
abbrev RV (v : Value) : Option (DataW Value × List MemPlace) := some (.held v, [])
abbrev kl (i : Int) : Lit := .int .i64 i
theorem keyed : Keyed Try.prog 3 := int_keyed Try.underlying3
theorem zero_bts (w : World) : (zeroValue 23).run Try.prog w = .ok (.slice none 0 0) w := by kernel_rfl
abbrev MapAt (w : World) (b n : Nat) (D : DataW Value) : Prop := w.ownsMap Try.prog 3 RV b n D
theorem key_ok (i : Int) (h : -9223372036854775808 ≤ i ∧ i ≤ 9223372036854775807) : keyOf Try.prog 3 (.int .i64 i) = some (kl i) := keyOf_int_mk Try.underlying3 (q := .i64) (a := i) (WalkArith.wf_i64 h)
def Mf (D : DataW Value) (f : Int → Option Value) : Prop := ∀ i, -9223372036854775808 ≤ i ∧ i ≤ 9223372036854775807 → (f i = none → Maps.has D (kl i) = false) ∧ ∀ v, f i = some v → Maps.has D (kl i) = true ∧ ∀ z, D.atKey (kl i) z = .held v
theorem Mf.nil : Mf (.map []) (fun _ => none) := fun i _ => ⟨fun _ => rfl, fun v h => by cases h⟩
theorem Mf.congr {D : DataW Value} {f g : Int → Option Value} (h : Mf D f) (e : ∀ i, f i = g i) : Mf D g := fun i hi => by rw [← e i]; exact h i hi
theorem iskey (i : Int) : WideAt.IsKeyLit (kl i) := trivial
theorem kl_ne {i j : Int} (h : i ≠ j) : kl i ≠ kl j := fun e => h (by injection e)
theorem Mf.put {D : DataW Value} {f : Int → Option Value} (h : Mf D f) (hD : IsMap D) (j : Int) (v : Value) : Mf (D.put (kl j) (.held v)) (fun i => if i = j then some v else f i) := fun i hi => by
  by_cases e : i = j
  · subst e
    simp only [if_true]
    refine ⟨(fun h => by cases h), fun u hu => ?_⟩
    injection hu with hu
    subst hu
    exact ⟨has_put_same hD (iskey i) _, fun z => atKey_put_same hD (iskey i) _ z⟩
  · simp only [if_neg e]
    obtain ⟨h1, h2⟩ := h i hi
    rw [has_put_other (kl_ne e)]
    exact ⟨h1, fun u hu => ⟨(h2 u hu).1, fun z => by rw [atKey_put_other (kl_ne e)]; exact (h2 u hu).2 z⟩⟩
theorem Mf.del {D : DataW Value} {f : Int → Option Value} (h : Mf D f) (j : Int) : Mf (D.del (kl j)) (fun i => if i = j then none else f i) := fun i hi => by
  by_cases e : i = j
  · subst e
    simp only [if_true]
    exact ⟨fun _ => has_del_same, fun u hu => by cases hu⟩
  · simp only [if_neg e]
    obtain ⟨h1, h2⟩ := h i hi
    rw [has_del_other (kl_ne e)]
    exact ⟨h1, fun u hu => ⟨(h2 u hu).1, fun z => by rw [atKey_del_other (kl_ne e)]; exact (h2 u hu).2 z⟩⟩
/-- looked up -/
theorem Mf.look {w : World} {b n : Nat} {D : DataW Value} {f : Int → Option Value} (h : Mf D f) (hm : MapAt w b n D) (i : Int) (hi : -9223372036854775808 ≤ i ∧ i ≤ 9223372036854775807) :
    (Instr.lookup 60 (.map (some b)) (.int .i64 i) true).run Try.prog w = .ok (.tuple #[(f i).getD (.slice none 0 0), .bool (f i).isSome]) w ∧
    (Instr.lookup 60 (.map (some b)) (.int .i64 i) false).run Try.prog w = .ok ((f i).getD (.slice none 0 0)) w := by
  obtain ⟨v, ps, hr, hv⟩ := hm.look_ok keyed Try.underlying60 (zero_bts w) (zd := .held (.slice none 0 0)) (zp := []) rfl (key_ok i hi)
  obtain ⟨v2, ps2, hr2, hv2⟩ := hm.lookup keyed Try.underlying60 (zero_bts w) (zd := .held (.slice none 0 0)) (zp := []) rfl (key_ok i hi)
  rw [hr, hr2]
  injection hv with hv
  injection hv with hv _
  injection hv2 with hv2
  injection hv2 with hv2 _
  obtain ⟨h1, h2⟩ := h i hi
  cases hf : f i with
  | none =>
    rw [h1 hf]
    rw [atKey_of_not_has (h1 hf)] at hv hv2
    injection hv with hv
    injection hv2 with hv2
    subst hv hv2
    exact ⟨rfl, rfl⟩
  | some u =>
    obtain ⟨h3, h4⟩ := h2 u hf
    rw [h3]
    rw [h4] at hv hv2
    injection hv with hv
    injection hv2 with hv2
    subst hv hv2
    exact ⟨rfl, rfl⟩
theorem map_block {w w' : World} {b n : Nat} {D : DataW Value} (h : MapAt w b n D) (hk : ∀ o, w.heap[b]? = some o → w'.heap[b]? = some o) : MapAt w' b n D := by
  obtain ⟨es, clock, hb, F, hs, hD⟩ := h
  exact ⟨es, clock, hk _ hb, F, hs, hD⟩
theorem map_no_cells {w : World} {b n : Nat} {D : DataW Value} (h : MapAt w b n D) {cs : Array Value} {t : TypeId} {z : Nat × Nat} (hc : w.heap[b]? = some (.cells cs t z)) : False := by
  obtain ⟨es, clock, hb, _⟩ := h
  rw [hb] at hc; cases hc
/-! ### a duct -/
structure Hm where
  fa : Option Addr
  fc : Nat
  oa : Option Addr
  oc : Nat
  m : Nat
  rv : Nat → Option Addr × Nat
abbrev rvV (h : Hm) (x : Dk) (i : Nat) : Value := .slice (h.rv i).1 (cpAt x.l i).raw.length (h.rv i).2
def tbl (h : Hm) (x : Dk) (i : Int) : Option Value := if isF x i then some (rvV h x i.toNat) else none
abbrev cellsD (x : Dk) (h : Hm) : Array Value := #[.int .i64 x.now, .slice h.fa x.l.length h.fc, .map (some h.m), .slice h.oa (fly x.l).length h.oc]
abbrev blks (B : Nat) (h : Hm) : List Nat := B :: h.m :: (blk h.fa h.fc ++ blk h.oa h.oc)
abbrev BRow (w : World) (a : Option Addr) (n cap : Nat) (l : List Int) : Prop := SlR w 5 1 a n cap (ints .u8 l)
/-- the parts, whatever they say -/
structure DM (w : World) (B : Nat) (now : Int) (fa : Option Addr) (fn fc : Nat) (F : List Value) (oa : Option Addr) (on oc : Nat) (O : List Value) (m n : Nat) (D : DataW Value) : Prop where
  hdr : w.heap[B]? = some (.cells #[.int .i64 now, .slice fa fn fc, .map (some m), .slice oa on oc] 64 (0, 0))
  fates : SlR w 41 4 fa fn fc F
  order : SlR w 3 1 oa on oc O
  map : MapAt w m n D
structure DAt (w : World) (B : Nat) (h : Hm) (x : Dk) : Prop where
  dm : ∃ n D, DM w B x.now h.fa x.l.length h.fc (ftC x.l) h.oa (fly x.l).length h.oc (ints .i64 (nms (fly x.l))) h.m n D ∧ n ≤ x.l.length ∧ Mf D (tbl h x)
  raws : ∀ i ∈ fly x.l, BRow w (h.rv i).1 (cpAt x.l i).raw.length (h.rv i).2 (cpAt x.l i).raw
theorem nts : (64 : TypeId) ≠ 41 ∧ (64 : TypeId) ≠ 3 ∧ (64 : TypeId) ≠ 5 ∧ (41 : TypeId) ≠ 3 ∧ (41 : TypeId) ≠ 5 ∧ (3 : TypeId) ≠ 5 := by decide
section
variable {w w' : World} {B : Nat} {now : Int} {fa : Option Addr} {fn fc : Nat} {F : List Value} {oa : Option Addr} {on oc : Nat} {O : List Value} {m n : Nat} {D : DataW Value} (h : DM w B now fa fn fc F oa on oc O m n D)
include h
theorem DM.keep {T : List Nat} (hk : Kept T w w') (hd : ∀ b ∈ B :: m :: (blk fa fc ++ blk oa oc), b ∉ T) : DM w' B now fa fn fc F oa on oc O m n D :=
  ⟨hk.heap (hd B (by simp)) h.hdr, h.fates.keep hk (fun b hb => hd b (by simp [hb])), h.order.keep hk (fun b hb => hd b (by simp [hb])), map_block h.map (fun o ho => hk.heap (hd m (by simp)) ho)⟩
theorem DM.lt : ∀ b ∈ B :: m :: (blk fa fc ++ blk oa oc), b < w.heap.size := by
  intro b hb
  simp only [List.mem_cons, List.mem_append] at hb
  rcases hb with rfl | rfl | hb | hb
  · exact lt_of_block h.hdr
  · exact h.map.lt
  · exact (h.fates.lt b hb).1
  · exact (h.order.lt b hb).1
/-- the parts lie apart -/
theorem DM.apart : B ≠ m ∧ B ∉ blk fa fc ∧ B ∉ blk oa oc ∧ m ∉ blk fa fc ∧ m ∉ blk oa oc ∧ ∀ b ∈ blk fa fc, b ∉ blk oa oc := by
  obtain ⟨t1, t2, t3, t4, t5, t6⟩ := nts
  refine ⟨?_, fun e => ?_, fun e => ?_, fun e => ?_, fun e => ?_, fun b e q => ?_⟩
  · rintro rfl
    exact map_no_cells h.map h.hdr
  · obtain ⟨_, c, q⟩ := h.fates.lt B e
    exact typ_ne h.hdr q t1 rfl
  · obtain ⟨_, c, q⟩ := h.order.lt B e
    exact typ_ne h.hdr q t2 rfl
  · obtain ⟨_, c, q⟩ := h.fates.lt m e
    exact map_no_cells h.map q
  · obtain ⟨_, c, q⟩ := h.order.lt m e
    exact map_no_cells h.map q
  · obtain ⟨_, c, p⟩ := h.fates.lt b e
    obtain ⟨_, c2, p2⟩ := h.order.lt b q
    exact typ_ne p p2 t4 rfl
/-- what is of another type lies elsewhere -/
theorem DM.typ {b : Nat} {ds : Array Value} {T : TypeId} (hb : w.heap[b]? = some (.cells ds T (0, 0))) (n1 : T ≠ 64) (n2 : T ≠ 41) (n3 : T ≠ 3) : b ∉ B :: m :: (blk fa fc ++ blk oa oc) := by
  intro he
  simp only [List.mem_cons, List.mem_append] at he
  rcases he with rfl | rfl | he | he
  · exact typ_ne hb h.hdr n1 rfl
  · exact map_no_cells h.map hb
  · obtain ⟨_, c, q⟩ := h.fates.lt b he
    exact typ_ne hb q n2 rfl
  · obtain ⟨_, c, q⟩ := h.order.lt b he
    exact typ_ne hb q n3 rfl
theorem DM.cel : (∀ i v, (#[Value.int .i64 now, .slice fa fn fc, .map (some m), .slice oa on oc] : Array Value)[i]? = some v → w.cell? ⟨B, i, none⟩ = some v) ∧ ∀ i, w.frozen? ⟨B, i, none⟩ = false := ⟨fun i v hv => cofr h.hdr i v hv, fun i => fofr h.hdr i⟩
theorem DM.later (hb : Below w.heap.size w w') : DM w' B now fa fn fc F oa on oc O m n D := h.keep (Kept.of_below hb (Nat.le_refl _) []) (fun _ _ => by simp)
/-- the map is another one -/
theorem DM.mapped {n' : Nat} {D' : DataW Value} (hm : MapAt w' m n' D') (hg : w.grownBy w' (some m)) : DM w' B now fa fn fc F oa on oc O m n' D' ∧ Kept [m] w w' := by
  have k : Kept [m] w w' := (Kept.refl [m] w).grown hg (fun k hk => .inl (by cases hk; simp))
  obtain ⟨a1, a2, a3, a4, a5, a6⟩ := h.apart
  exact ⟨⟨k.heap (by simpa using a1) h.hdr, h.fates.keep k (fun b hb e => by simp at e; subst e; exact a4 hb), h.order.keep k (fun b hb e => by simp at e; subst e; exact a5 hb), hm⟩, k⟩
/-- the numbers' row is another one -/
theorem DM.ordered {oa' : Option Addr} {on' oc' : Nat} {O' : List Value} (hk : Kept (blk oa oc) w w') (hr : SlR w' 3 1 oa' on' oc' O') (hb : ∀ b ∈ blk oa' oc', b ∈ blk oa oc ∨ w.heap.size ≤ b) :
    (DM (w'.setCell ⟨B, 3, none⟩ (.slice oa' on' oc')) B now fa fn fc F oa' on' oc' O' m n D ∧ Kept (B :: m :: (blk fa fc ++ blk oa oc)) w (w'.setCell ⟨B, 3, none⟩ (.slice oa' on' oc')) ∧ ∀ b ∈ blk oa' oc', b ∈ blk oa oc ∨ w.heap.size ≤ b) ∧
    w'.cell? ⟨B, 3, none⟩ = some (.slice oa on oc) ∧ w'.frozen? ⟨B, 3, none⟩ = false := by
  obtain ⟨a1, a2, a3, a4, a5, a6⟩ := h.apart
  have hB := hk.heap a3 h.hdr
  have ks : Kept [B] w' (w'.setCell ⟨B, 3, none⟩ (.slice oa' on' oc')) := (Kept.refl [B] w').setCell (.inl (by simp)) _
  have hlt := lt_of_block h.hdr
  refine ⟨⟨⟨heap_setCell_same w' B 3 _ _ (.slice oa' on' oc') hB, (h.fates.keep hk (fun b hb e => a6 b hb e)).keep ks (fun b hb e => by simp at e; subst e; exact a2 hb), hr.keep ks (fun b hb' e => by
    simp at e; subst e
    rcases hb b hb' with q | q
    · exact a3 q
    · omega), map_block (map_block h.map (fun o ho => hk.heap a5 ho)) (fun o ho => ks.heap (by simpa using a1.symm) ho)⟩, (hk.mono (S' := B :: m :: (blk fa fc ++ blk oa oc)) (fun x hx => .inl (by simp [hx]))).trans ks (fun x hx => .inl (by simp at hx; simp [hx])), hb⟩, cofr hB 3 _ rfl, fofr hB 3⟩
/-- the fates' row is another one -/
theorem DM.fated {fa' : Option Addr} {fn' fc' : Nat} {F' : List Value} (hk : Kept (blk fa fc) w w') (hr : SlR w' 41 4 fa' fn' fc' F') (hb : ∀ b ∈ blk fa' fc', b ∈ blk fa fc ∨ w.heap.size ≤ b) :
    (DM (w'.setCell ⟨B, 1, none⟩ (.slice fa' fn' fc')) B now fa' fn' fc' F' oa on oc O m n D ∧ Kept (B :: m :: (blk fa fc ++ blk oa oc)) w (w'.setCell ⟨B, 1, none⟩ (.slice fa' fn' fc')) ∧ ∀ b ∈ blk fa' fc', b ∈ blk fa fc ∨ w.heap.size ≤ b) ∧
    w'.cell? ⟨B, 1, none⟩ = some (.slice fa fn fc) ∧ w'.frozen? ⟨B, 1, none⟩ = false := by
  obtain ⟨a1, a2, a3, a4, a5, a6⟩ := h.apart
  have hB := hk.heap a2 h.hdr
  have ks : Kept [B] w' (w'.setCell ⟨B, 1, none⟩ (.slice fa' fn' fc')) := (Kept.refl [B] w').setCell (.inl (by simp)) _
  have hlt := lt_of_block h.hdr
  refine ⟨⟨⟨heap_setCell_same w' B 1 _ _ (.slice fa' fn' fc') hB, hr.keep ks (fun b hb' e => by
    simp at e; subst e
    rcases hb b hb' with q | q
    · exact a2 q
    · omega), (h.order.keep hk (fun b hb e => a6 b e hb)).keep ks (fun b hb e => by simp at e; subst e; exact a3 hb), map_block (map_block h.map (fun o ho => hk.heap a4 ho)) (fun o ho => ks.heap (by simpa using a1.symm) ho)⟩, (hk.mono (S' := B :: m :: (blk fa fc ++ blk oa oc)) (fun x hx => .inl (by simp [hx]))).trans ks (fun x hx => .inl (by simp at hx; simp [hx])), hb⟩, cofr hB 1 _ rfl, fofr hB 1⟩
/-- the time is another one -/
theorem DM.timed (t : Int) : DM (w.setCell ⟨B, 0, none⟩ (.int .i64 t)) B t fa fn fc F oa on oc O m n D ∧ Kept (B :: m :: (blk fa fc ++ blk oa oc)) w (w.setCell ⟨B, 0, none⟩ (.int .i64 t)) := by
  obtain ⟨a1, a2, a3, a4, a5, a6⟩ := h.apart
  have ks : Kept [B] w (w.setCell ⟨B, 0, none⟩ (.int .i64 t)) := (Kept.refl [B] w).setCell (.inl (by simp)) _
  exact ⟨⟨heap_setCell_same w B 0 _ _ (.int .i64 t) h.hdr, h.fates.keep ks (fun b hb e => by simp at e; subst e; exact a2 hb), h.order.keep ks (fun b hb e => by simp at e; subst e; exact a3 hb), map_block h.map (fun o ho => ks.heap (by simpa using a1.symm) ho)⟩, ks.mono (fun x hx => .inl (by simp at hx; simp [hx]))⟩
end
section
variable {w w' : World} {B : Nat} {h : Hm} {x : Dk} (H : DAt w B h x)
include H
theorem DAt.lt : ∀ b ∈ blks B h, b < w.heap.size := by obtain ⟨⟨n, D, d, _⟩, _⟩ := H; exact d.lt
theorem DAt.rawT {i : Nat} (hi : i ∈ fly x.l) : ∀ b ∈ blk (h.rv i).1 (h.rv i).2, b < w.heap.size ∧ b ∉ blks B h := fun b hb => by
  obtain ⟨q, cs, hc⟩ := (H.raws i hi).lt b hb
  obtain ⟨⟨n, D, d, _⟩, _⟩ := H
  obtain ⟨t1, t2, t3, t4, t5, t6⟩ := nts
  exact ⟨q, d.typ hc t3.symm t5.symm t6.symm⟩
theorem DAt.keep {T : List Nat} (hk : Kept T w w') (hd : ∀ b ∈ blks B h, b ∉ T) (hr : ∀ b ∈ T, ∀ cs, w.heap[b]? ≠ some (.cells cs 5 (0, 0))) : DAt w' B h x := by
  obtain ⟨⟨n, D, d, q⟩, r⟩ := H
  refine ⟨⟨n, D, d.keep hk hd, q⟩, fun i hi => (r i hi).keep hk (fun b hb e => ?_)⟩
  obtain ⟨_, cs, hc⟩ := (r i hi).lt b hb
  exact hr b e cs hc
theorem DAt.later (hb : Below w.heap.size w w') : DAt w' B h x := H.keep (Kept.of_below hb (Nat.le_refl _) []) (fun _ _ => by simp) (fun b hb => by simp at hb)
theorem DAt.drewN (n : Nat) : DAt (w.drewN n) B h x := H.later ⟨rfl, rfl, rfl, Nat.le_refl _, fun _ _ => rfl⟩
theorem DAt.drew : DAt w.drew B h x := H.later (Below.refl _ _).drew
theorem DAt.cs : w.cell? ⟨B, 0, none⟩ = some (.int .i64 x.now) ∧ w.cell? ⟨B, 1, none⟩ = some (.slice h.fa x.l.length h.fc) ∧ w.cell? ⟨B, 2, none⟩ = some (.map (some h.m)) ∧ w.cell? ⟨B, 3, none⟩ = some (.slice h.oa (fly x.l).length h.oc) := by
  obtain ⟨⟨n, D, d, _⟩, _⟩ := H
  exact ⟨d.cel.1 0 _ rfl, d.cel.1 1 _ rfl, d.cel.1 2 _ rfl, d.cel.1 3 _ rfl⟩
theorem DAt.f (i : Nat) : w.frozen? ⟨B, i, none⟩ = false := by
  obtain ⟨⟨n, D, d, _⟩, _⟩ := H
  exact d.cel.2 i
/-- a fate in memory -/
theorem DAt.fate {i : Nat} (hi : i < x.l.length) : ∃ g off, h.fa = some ⟨g, off, none⟩ ∧ x.l.length ≤ h.fc ∧ h.fc ≤ maxLen ∧ w.cell? ⟨g, off + i * 4, none⟩ = some (.int .i64 (cpAt x.l i).f) ∧ w.cell? ⟨g, off + i * 4 + 1, none⟩ = some (.int .i64 (cpAt x.l i).a) ∧
    w.cell? ⟨g, off + i * 4 + 2, none⟩ = some (.int .i64 (cpAt x.l i).e) ∧ w.cell? ⟨g, off + i * 4 + 3, none⟩ = some (.int .i64 (cpAt x.l i).k) := by
  obtain ⟨⟨n, D, d, _⟩, _⟩ := H
  have hle := d.fates.le
  obtain ⟨g, off, e, hc⟩ := d.fates.cell (by omega)
  have hh : ∀ j, j < 4 → w.cell? ⟨g, off + i * 4 + j, none⟩ = (ftc (cpAt x.l i))[j]? := fun j hj => by rw [Nat.add_assoc, hc (i * 4 + j) (by omega)]; exact ftC_get x.l i hi j hj
  exact ⟨g, off, e, hle, d.fates.most, hh 0 (by omega), hh 1 (by omega), hh 2 (by omega), hh 3 (by omega)⟩
/-- a number in memory -/
theorem DAt.num {j : Nat} (hj : j < (fly x.l).length) : ∃ g off, h.oa = some ⟨g, off, none⟩ ∧ (fly x.l).length ≤ h.oc ∧ h.oc ≤ maxLen ∧ ∀ j (hj : j < (fly x.l).length), w.cell? ⟨g, off + j, none⟩ = some (.int .i64 ((fly x.l)[j] : Int)) := by
  obtain ⟨⟨n, D, d, _⟩, _⟩ := H
  have hle := d.order.le
  obtain ⟨g, off, e, hc⟩ := d.order.cell (by omega)
  refine ⟨g, off, e, hle, d.order.most, fun j hj => ?_⟩
  rw [hc j (by omega)]
  simp [ints, nms, hj]
theorem DAt.look (i : Int) (hi : -9223372036854775808 ≤ i ∧ i ≤ 9223372036854775807) :
    (Instr.lookup 60 (.map (some h.m)) (.int .i64 i) true).run Try.prog w = .ok (.tuple #[(tbl h x i).getD (.slice none 0 0), .bool (decide (isF x i))]) w ∧
    (Instr.lookup 60 (.map (some h.m)) (.int .i64 i) false).run Try.prog w = .ok ((tbl h x i).getD (.slice none 0 0)) w := by
  obtain ⟨⟨n, D, d, _, hf⟩, _⟩ := H
  obtain ⟨h1, h2⟩ := hf.look d.map i hi
  refine ⟨h1.trans ?_, h2⟩
  have : (tbl h x i).isSome = decide (isF x i) := by unfold tbl; split <;> simp [*]
  rw [this]
end
/-- a call that changes nothing but draws -/
def Q (f : FuncId) (args : Array Value) (v : Value) (w : World) : Prop := ∀ n, Calls Try.prog f args (w.drewN n) fun e w'' => e = .returned v ∧ ∃ m, w'' = w.drewN m
theorem Q.mk {f : FuncId} {args : Array Value} {v : Value} {w : World} (h : ∀ n, Calls Try.prog f args (w.drewN n) fun e w'' => e = .returned v ∧ ∃ m, w'' = (w.drewN n).drewN m) : Q f args v w := fun n =>
  (h n).mono fun _ _ ⟨he, m, hm⟩ => ⟨he, n + m, by rw [hm, World.drewN_drewN]⟩
theorem Q.at {f : FuncId} {args : Array Value} {v : Value} {w : World} (h : Q f args v w) : Calls Try.prog f args w fun e w'' => e = .returned v ∧ ∃ m, w'' = w.drewN m := h 0
theorem Q.nth {f : FuncId} {args : Array Value} {v : Value} {w : World} (h : Q f args v w) (n : Nat) : Calls Try.prog f args (w.drewN n) fun e w'' => e = .returned v ∧ ∃ m, w'' = w.drewN m := h n
theorem Q.below {f : FuncId} {args : Array Value} {v : Value} {w : World} (h : Q f args v w) : Calls Try.prog f args w fun e w' => e = .returned v ∧ Below w.heap.size w w' :=
  (h.at).mono fun e w' ⟨h1, n, h2⟩ => ⟨h1, h2 ▸ ⟨rfl, rfl, rfl, Nat.le_refl _, fun _ _ => rfl⟩⟩
theorem len_q {w : World} {B : Nat} {h : Hm} {x : Dk} (H : DAt w B h x) : Q 17 #[.pointer (some ⟨B, 0, none⟩)] (.int .i64 ((fly x.l).length : Nat)) w := by
  refine Q.mk fun m => ?_
  have c3 := (H.drewN m).cs.2.2.2
  clear H
  generalize w.drewN m = w at *
  go_enter Try.func17, Try.ntmps17
  go_wp2
  go_ret
  exact ⟨rfl, 0, rfl⟩
theorem total_q {w : World} {B : Nat} {h : Hm} {x : Dk} (H : DAt w B h x) : Q 18 #[.pointer (some ⟨B, 0, none⟩)] (.int .i64 (x.l.length : Nat)) w := by
  refine Q.mk fun m => ?_
  have c3 := (H.drewN m).cs.2.1
  clear H
  generalize w.drewN m = w at *
  go_enter Try.func18, Try.ntmps18
  go_wp2
  go_ret
  exact ⟨rfl, 0, rfl⟩
theorem when_q {w : World} {B : Nat} {h : Hm} {x : Dk} (H : DAt w B h x) (now : Int) : Q 30 #[.pointer (some ⟨B, 0, none⟩), .int .i64 now] (.int .i64 (whenE x now)) w := by
  refine Q.mk fun m => ?_
  have c0 := (H.drewN m).cs.1
  clear H
  generalize w.drewN m = w at *
  by_cases h1 : now < x.now
  · have e : whenE x now = 3 := by unfold whenE; rw [if_pos (.inl h1)]
    rw [e]
    clear e
    go_enter Try.func30, Try.ntmps30
    go_wp2
    go_ret
    exact ⟨rfl, 0, rfl⟩
  by_cases h2 : 4611686018427387904 < now
  · have e : whenE x now = 3 := by unfold whenE; rw [if_pos (.inr h2)]
    rw [e]
    clear e
    go_enter Try.func30, Try.ntmps30
    go_wp2
    go_ret
    exact ⟨rfl, 0, rfl⟩
  have e : whenE x now = 0 := by unfold whenE; rw [if_neg (by omega)]
  rw [e]
  clear e
  go_enter Try.func30, Try.ntmps30
  go_wp2
  go_ret
  exact ⟨rfl, 0, rfl⟩
end Go.Proofs.Ytahegkbdefhlpaa.dc
/-!   Package duct: which, Fate, New, clones of bytes.
-/
namespace Go.Proofs.Ytahegkbdefhlpaa.dc
open Go.RowKit Go.Maps aid mem
attribute [local go_sem ↓] Go.wp_at_zero Go.wp_at_succ
set_option linter.unusedVariables false
set_option linter.unusedSimpArgs false

theorem bdn {n : Nat} {w w' : World} (h : Below n w w') (q : Nat) : Below n w (w'.drewN q) := ⟨h.os, h.tape, h.output, h.size, h.block⟩
theorem which_q {w : World} {B : Nat} {h : Hm} {x : Dk} (H : DAt w B h x) (id now : Int) (hi : -9223372036854775808 ≤ id ∧ id ≤ 9223372036854775807) : Q 33 #[.pointer (some ⟨B, 0, none⟩), .int .i64 id, .int .i64 now] (.int .i64 (whichE x id now)) w := by
  intro m
  have HW := Lib.hid (when_q H now)
  have HL := Lib.hid (fun q => ((H.drewN q).look id hi).1)
  have HC := Lib.hid (fun q => (H.drewN q).cs.2.2.1)
  rcases whichE_or x id now with ⟨e, e2, e3⟩ | ⟨e, e2⟩ | ⟨e, e2, e3⟩
  · rw [e]
    rw [e2, ] at HW
    rw [show decide (isF x id) = true from by simpa using e3] at HL
    clear H e e2 e3
    go_enter Try.func33, Try.ntmps33
    go_wp2_with (go_at_call 30; (with_reducible refine (HW.out.nth m).mono ?_); rintro e w1 ⟨rfl, q, rfl⟩; have hl := HL.out q; have hc := HC.out q)
    go_ret
    exact ⟨rfl, q, rfl⟩
  · rw [e]
    rw [e2] at HW
    clear H e e2 HL HC
    go_enter Try.func33, Try.ntmps33
    go_wp2_with (go_at_call 30; (with_reducible refine (HW.out.nth m).mono ?_); rintro e w1 ⟨rfl, q, rfl⟩)
    go_ret
    exact ⟨rfl, q, rfl⟩
  · rw [e]
    rw [e2] at HW
    rw [show decide (isF x id) = false from by simpa using e3] at HL
    clear H e e2 e3
    go_enter Try.func33, Try.ntmps33
    go_wp2_with (go_at_call 30; (with_reducible refine (HW.out.nth m).mono ?_); rintro e w1 ⟨rfl, q, rfl⟩; have hl := HL.out q; have hc := HC.out q)
    go_ret
    exact ⟨rfl, q, rfl⟩
theorem put4_box {W : World} {b : Nat} {c0 c1 c2 c3 : Value} {T : TypeId} (h : W.heap[b]? = some (.cells #[c0, c1, c2, c3] T (0, 0))) (v0 v1 v2 v3 : Value) :
    ((((W.setCell ⟨b, 0, none⟩ v0).setCell ⟨b, 1, none⟩ v1).setCell ⟨b, 2, none⟩ v2).setCell ⟨b, 3, none⟩ v3).heap[b]? = some (.cells #[v0, v1, v2, v3] T (0, 0)) :=
  (heap_setCell_same _ b 3 _ _ _ ((heap_setCell_same _ b 2 _ _ _ ((heap_setCell_same _ b 1 _ _ _ ((heap_setCell_same W b 0 _ _ _ h).trans rfl)).trans rfl)).trans rfl)).trans rfl
theorem put4_below {w W : World} {b : Nat} (hb : Below w.heap.size w W) (hn : w.heap.size ≤ b) (v0 v1 v2 v3 : Value) :
    Below w.heap.size w ((((W.setCell ⟨b, 0, none⟩ v0).setCell ⟨b, 1, none⟩ v1).setCell ⟨b, 2, none⟩ v2).setCell ⟨b, 3, none⟩ v3) :=
  hb.trans (((((Kept.refl [b] W).setCell (.inl (by simp)) v0).setCell (.inl (by simp)) v1).setCell (.inl (by simp)) v2).setCell (.inl (by simp)) v3 |>.below (by simpa using hn) hb.size)
/-- what is told of a copy -/
def fdI (x : Dk) (id : Int) : Prop := 0 ≤ id ∧ id < (x.l.length : Int)
instance (x : Dk) (id : Int) : Decidable (fdI x id) := by unfold fdI; exact inferInstance
def ftC0 : Cp := ⟨0, 0, 0, 0, []⟩
def ftI (x : Dk) (id : Int) : Cp := if fdI x id then cpAt x.l id.toNat else ftC0
abbrev ftV (c : Cp) : Value := .agg #[.int .i64 c.f, .int .i64 c.a, .int .i64 c.e, .int .i64 c.k]
def RetF (x : Dk) (id : Int) (w : World) (e : Ending) (w' : World) : Prop := e = .returned (.tuple #[ftV (ftI x id), .bool (decide (fdI x id))]) ∧ Below w.heap.size w w'
set_option maxHeartbeats 1000000 in
theorem fate_any {w : World} {B : Nat} {h : Hm} {x : Dk} (H : DAt w B h x) (id : Int) (hl : x.l.length ≤ 1000000) : Calls Try.prog 13 #[.pointer (some ⟨B, 0, none⟩), .int .i64 id] w (RetF x id w) := by
  have hb := bal (w := w) (.cells #[.int .i64 0, .int .i64 0, .int .i64 0, .int .i64 0] 41)
  have HT := Lib.hid (total_q (H.later hb))
  have hx := heap_alloc_new w (.cells #[.int .i64 0, .int .i64 0, .int .i64 0, .int .i64 0] 41)
  have HX := Lib.hid (fun q => show ((w.alloc (.cells #[.int .i64 0, .int .i64 0, .int .i64 0, .int .i64 0] 41)).drewN q).heap[w.heap.size]? = some (.cells #[.int .i64 0, .int .i64 0, .int .i64 0, .int .i64 0] 41 (0, 0)) from hx)
  have HK := Lib.hid (fun q => (H.later hb).drewN q)
  have HBB := Lib.hid (fun q => bdn hb q)
  by_cases h1 : id < 0
  · have h2 : ¬ fdI x id := fun e => absurd h1 (by have := e.1; omega)
    have HF : Hid (ftI x id = ftC0 ∧ decide (fdI x id) = false) := Lib.hid ⟨by unfold ftI; rw [if_neg h2], by simpa using h2⟩
    unfold RetF
    rw [HF.out.1, HF.out.2]
    have hd : decide (id < 0) = true := by simpa using h1
    clear H HT HX HK h2
    have e0 := cofr hx 0 _ rfl
    have e1 := cofr hx 1 _ rfl
    have e2 := cofr hx 2 _ rfl
    have e3 := cofr hx 3 _ rfl
    have f0 := fofr hx 0
    have f1 := fofr hx 1
    have f2 := fofr hx 2
    have f3 := fofr hx 3
    go_enter Try.func13, Try.ntmps13
    go_wp2_with fail
    exact bodyPost_ret (v := .tuple #[ftV ftC0, .bool false]) (by simp [results, Try.results13, go_sem, e0, e1, e2, e3, ftC0]) rfl ⟨rfl, hb⟩
  have hd : decide (id < 0) = false := by simpa using h1
  by_cases h3 : (x.l.length : Int) ≤ id
  · have h2 : ¬ fdI x id := fun e => absurd h3 (by have := e.2; omega)
    have HF : Hid (ftI x id = ftC0 ∧ decide (fdI x id) = false) := Lib.hid ⟨by unfold ftI; rw [if_neg h2], by simpa using h2⟩
    unfold RetF
    rw [HF.out.1, HF.out.2]
    clear H hx HK h2
    go_enter Try.func13, Try.ntmps13
    go_wp2_with (go_at_call 18; (with_reducible refine HT.out.at.mono ?_); rintro e w1 ⟨rfl, q, rfl⟩; have hx := HX.out q; have hb := HBB.out q; have e0 := cofr hx 0 _ rfl; have e1 := cofr hx 1 _ rfl; have e2 := cofr hx 2 _ rfl; have e3 := cofr hx 3 _ rfl; have f0 := fofr hx 0; have f1 := fofr hx 1; have f2 := fofr hx 2; have f3 := fofr hx 3)
    have hq := put4_box hx (.int .i64 0) (.int .i64 0) (.int .i64 0) (.int .i64 0)
    have hbq := put4_below hb (Nat.le_refl _) (.int .i64 0) (.int .i64 0) (.int .i64 0) (.int .i64 0)
    have r0 := cofr hq 0 _ rfl
    have r1 := cofr hq 1 _ rfl
    have r2 := cofr hq 2 _ rfl
    have r3 := cofr hq 3 _ rfl
    exact bodyPost_ret (v := .tuple #[ftV ftC0, .bool false]) (by simp [results, Try.results13, go_sem, r0, r1, r2, r3, ftC0]) rfl ⟨rfl, hbq⟩
  · have h2 : fdI x id := ⟨by omega, by omega⟩
    obtain ⟨i, rfl⟩ : ∃ i : Nat, id = (i : Int) := ⟨id.toNat, by omega⟩
    have HF : Hid (ftI x (i : Int) = cpAt x.l i ∧ decide (fdI x (i : Int)) = true) := Lib.hid ⟨by unfold ftI; rw [if_pos h2]; rfl, by simpa using h2⟩
    unfold RetF
    rw [HF.out.1, HF.out.2]
    have hi : i < x.l.length := by omega
    have HC := Lib.hid (fun q => And.intro (HK.out q).cs.2.1 ((HK.out q).fate hi))
    generalize cpAt x.l i = c at *
    clear H hx HK h2
    go_enter Try.func13, Try.ntmps13
    go_wp2_with (go_at_call 18; (with_reducible refine HT.out.at.mono ?_); rintro e w1 ⟨rfl, q, rfl⟩; have hx := HX.out q; have hb := HBB.out q; obtain ⟨c1, g, off, hg, hlc, hcm, k0, k1, k2, k3⟩ := HC.out q; rw [hg] at c1; have e0 := cofr hx 0 _ rfl; have e1 := cofr hx 1 _ rfl; have e2 := cofr hx 2 _ rfl; have e3 := cofr hx 3 _ rfl; have f0 := fofr hx 0; have f1 := fofr hx 1; have f2 := fofr hx 2; have f3 := fofr hx 3; unfold maxLen at hcm)
    have hq := put4_box hx (.int .i64 c.f) (.int .i64 c.a) (.int .i64 c.e) (.int .i64 c.k)
    have hbq := put4_below hb (Nat.le_refl _) (.int .i64 c.f) (.int .i64 c.a) (.int .i64 c.e) (.int .i64 c.k)
    have r0 := cofr hq 0 _ rfl
    have r1 := cofr hq 1 _ rfl
    have r2 := cofr hq 2 _ rfl
    have r3 := cofr hq 3 _ rfl
    exact bodyPost_ret (v := .tuple #[ftV c, .bool true]) (by simp [results, Try.results13, go_sem, r0, r1, r2, r3]) rfl ⟨rfl, hbq⟩
/-- bytes of a new row -/
def RetB (l : List Int) (w : World) (e : Ending) (w' : World) : Prop := ∃ a' cap', e = .returned (.slice a' l.length cap') ∧ BRow w' a' l.length cap' l ∧ Below w.heap.size w w' ∧ ∀ b ∈ blk a' cap', w.heap.size ≤ b
set_option maxRecDepth 100000 in
set_option maxHeartbeats 1000000 in
theorem bclone_any {w : World} {a : Option Addr} {n cap : Nat} {l : List Int} (h : SlA .u8 w a n cap l) (hn2 : n ≤ 1000000000000) : Calls Try.prog 32 #[.slice a n cap] w (RetB l w) := by
  obtain ⟨i0, hi, hz0, hz1, hz2⟩ := info_split info_u8
  have hle := h.le
  have hll := h.len
  by_cases h0 : n = 0
  · obtain rfl : l = [] := List.eq_nil_of_length_eq_zero (by omega)
    subst h0
    have HF0 := Lib.hid (fun (a' : Option Addr) (W : World) (hb : Below w.heap.size w W) => show RetB [] w (.returned (.slice a' 0 0)) W from ⟨a', 0, rfl, SlR.sub0 a', hb, fun b hb => by simp [blk_zero] at hb⟩)
    cases a with
    | none =>
      have he : ∀ w : World, (binOp .eql 23 (.slice none 0 cap) (.slice none 0 0)).run Try.prog w = .ok (.bool true) w := fun _ => rfl
      go_enter Try.func32, Try.ntmps32
      go_wp2
      go_ret
      exact HF0.out _ _ (Below.refl _ _)
    | some x =>
      have he : ∀ w : World, (binOp .eql 23 (.slice (some x) 0 cap) (.slice none 0 0)).run Try.prog w = .ok (.bool false) w := fun _ => rfl
      have HS := Lib.hid (fun W => Src.ofSlice (P := Try.prog) (size := 1) W Try.underlying23 x 0 cap [] (by simp) (by intro j u hu; simp at hu) (by simp))
      go_enter Try.func32, Try.ntmps32
      go_wp2
      go_ret
      exact HF0.out _ _ (bal _)
  · obtain ⟨g, off, rfl, _⟩ := h.cells (by omega)
    have HS := Lib.hid (fun W (hb : Below w.heap.size w W) => (h.later hb).src (P := Try.prog) Try.underlying23)
    clear h
    have he : ∀ w : World, (binOp .eql 23 (.slice (some ⟨g, off, none⟩) n cap) (.slice none 0 0)).run Try.prog w = .ok (.bool false) w := fun _ => rfl
    go_enter Try.func32, Try.ntmps32
    go_wp2_with (at_builtin; go_must (refine wpList_append_slr _ rfl (.tmp 5) (.tmp 6) 23 23 rfl 5 i0 (.int .u8 0) 1 1 Try.underlying23 hi hz0 hz1 (by decide) hz2 rfl _ 0 0 [] rfl (SlR.sub0 _) _ rfl n (by omega) (ints .u8 l) (HS.out _ ((Below.refl _ _).alloc (Nat.le_refl _) _)) (by unfold maxLen; omega) (by omega) ?_); intro a' cap' w3 hrow hkp hat)
    go_ret
    refine ⟨a', cap', by rw [hll]; simp, by rw [hll]; simpa using hrow, (Below.refl w.heap.size w |>.alloc (Nat.le_refl _) _).trans (hkp.below (by simp [blk_zero]) (by simp)), fun b hb => ?_⟩
    rcases hat b hb with h | h
    · simp [blk_zero] at h
    · simp at h; omega
end Go.Proofs.Ytahegkbdefhlpaa.dc
/-!   Rows of which all is known: append into room, copy, clear, append of zeros that grows (slices.Grow). Imports nothing of the program.
-/
namespace Go.Proofs.Ytahegkbdefhlpaa.mem
open Go.RowKit aid
set_option linter.unusedVariables false
set_option linter.unusedSimpArgs false

/-- a slice's row, all of it -/
structure SlP (w : World) (e : TypeId) (sz g off n cap : Nat) (xs P R : List Value) : Prop where
  heap : w.heap[g]? = some (.cells (P ++ xs ++ R).toArray e (0, 0))
  p : P.length = off
  len : xs.length = n * sz
  le : n ≤ cap
  most : cap ≤ maxLen
  room : cap * sz ≤ xs.length + R.length
theorem SlP.slr {w : World} {e : TypeId} {sz g off n cap : Nat} {xs P R : List Value} (h : SlP w e sz g off n cap xs P R) : SlR w e sz (some ⟨g, off, none⟩) n cap xs :=
  ⟨h.len, h.le, h.most, fun _ => ⟨g, off, _, rfl, h.heap, by
    have h1 := h.p; have h2 := h.room
    simp only [List.size_toArray, List.length_append]
    omega, fun j hj => by
    have h1 := h.p; have h2 := h.len
    rw [List.getElem?_toArray, List.append_assoc, List.getElem?_append_right (by omega), List.getElem?_append_left (by omega)]
    congr 1
    omega⟩⟩
theorem SlR.slp {w : World} {e : TypeId} {sz n cap : Nat} {a : Option Addr} {xs : List Value} (h : SlR w e sz a n cap xs) (h0 : 0 < cap) : ∃ g off P R, a = some ⟨g, off, none⟩ ∧ SlP w e sz g off n cap xs P R := by
  obtain ⟨g, off, cur, rfl, hg, h1, h2⟩ := h.rest h0
  have hmul : n * sz ≤ cap * sz := Nat.mul_le_mul_right _ h.le
  have hlen := h.len
  have e1 : cur.toList = cur.toList.take off ++ xs ++ cur.toList.drop (off + n * sz) := by
    have e2 : (cur.toList.drop off).take (n * sz) = xs := by
      apply List.ext_getElem?
      intro j
      rw [List.getElem?_take]
      by_cases hj : j < n * sz
      · rw [if_pos hj, List.getElem?_drop, ← h2 j hj]
        simp
      · rw [if_neg hj, List.getElem?_eq_none (by omega)]
    conv => lhs; rw [← List.take_append_drop off cur.toList]
    rw [List.append_assoc]
    congr 1
    conv => lhs; rw [← List.take_append_drop (n * sz) (cur.toList.drop off)]
    rw [e2, List.drop_drop]
  refine ⟨g, off, cur.toList.take off, cur.toList.drop (off + n * sz), rfl, ?_, ?_, hlen, h.le, h.most, ?_⟩
  · rw [← e1]; simpa using hg
  · rw [List.length_take, Array.length_toList]; omega
  · show cap * sz ≤ xs.length + (cur.toList.drop (off + n * sz)).length
    have hc : cur.toList.length = cur.size := Array.length_toList
    rw [List.length_drop, hc, hlen]; omega
theorem SlP.later {w w' : World} {e : TypeId} {sz g off n cap : Nat} {xs P R : List Value} (h : SlP w e sz g off n cap xs P R) (hb : Below w.heap.size w w') : SlP w' e sz g off n cap xs P R :=
  ⟨(hb.block _ (lt_of_block h.heap)).trans h.heap, h.p, h.len, h.le, h.most, h.room⟩
theorem addr_add (g off j : Nat) : (⟨g, off, none⟩ : Addr).add j = ⟨g, off + j, none⟩ := by unfold Addr.add; split <;> simp_all
theorem kept_setRow (w : World) (g : Nat) (cs : Array Value) : Kept [g] w (w.setRow g cs) := ⟨rfl, rfl, rfl, by simp [World.setRow], fun k _ hk => setRow_other w g k cs (fun e => hk (by simp [e]))⟩
section
variable {P : Program} (w : World)
/-- what a store of cells leaves -/
theorem run_store_row (g o : Nat) (t : TypeId) (A B C vs : List Value) (hg : w.heap[g]? = some (.cells (A ++ B ++ C).toArray t (0, 0))) (hA : A.length = o) (hB : B.length = vs.length) (h1 : ∀ v ∈ vs, v.oneCell' = true) :
    (storeCells ⟨g, o, none⟩ vs 0).run P w = .ok () (w.setRow g (A ++ vs ++ C).toArray) := by
  have := run_storeCells_at P g o t vs 0 _ w hg (by simp; omega) h1
  rw [this]
  congr 3
  simp only [Nat.add_zero]
  have e1 : (A ++ B ++ C).take o = A := by rw [List.append_assoc, ← hA]; exact List.take_left
  have e2 : (A ++ B ++ C).drop (o + vs.length) = C := by
    rw [show o + vs.length = (A ++ B).length by simp; omega]
    exact List.drop_left
  rw [e1, e2]
/-- append, where there is room -/
theorem run_append_p (t tx ty : TypeId) (e : TypeId) (i : TypeInfo) (sz : Nat) (ht : P.underlying t = some (.slice e)) (hi : P.info? e = some i) (hsize : i.size = sz) (g off n cap : Nat) (A B C : List Value)
    (hg : w.heap[g]? = some (.cells (A ++ B ++ C).toArray e (0, 0))) (hA : A.length = off + n * sz) (x : Value) (m : Nat) (news : List Value) (hs : Src P sz tx x m news w) (hB : B.length = m * sz) (hroom : n + m ≤ cap) :
    (Builtin.append_ #[t, tx] ty #[.slice (some ⟨g, off, none⟩) n cap, x]).run P w = .ok (.slice (some ⟨g, off, none⟩) (n + m) cap) (w.setRow g (A ++ news ++ C).toArray) := by
  subst hsize
  have hnl : news.length = m * i.size := by simpa using hs.newsLen
  have hst := run_store_row (P := P) w g (off + n * i.size) e A B C news hg hA (by rw [hB, hnl]) hs.one
  rcases hs.kind with ⟨e', hk⟩ | hk <;> simp [Builtin.append_, run_underlying ht, run_underlying hk, sizeOf, typeInfo, hi, hs.len, hroom, hs.cells, Addr.add_lit, hst]
theorem step_append_p {ops : Array Oper} {o : Oper} {a : Act} {K : Act → World → Prop} {Q : Exit → Act → World → Prop} {E : Prop} (hgd : o.guard = none) (s x : Operand) (t tx : TypeId)
    (ho : o.op = .call { callee := .builtin .append, args := #[s, x], argTypes := #[t, tx] })
    (e : TypeId) (i : TypeInfo) (sz : Nat) (ht : P.underlying t = some (.slice e)) (hi : P.info? e = some i) (hsize : i.size = sz) (g off n cap : Nat) (A B C : List Value) (hsv : a.eval s = .slice (some ⟨g, off, none⟩) n cap)
    (hg : w.heap[g]? = some (.cells (A ++ B ++ C).toArray e (0, 0))) (hA : A.length = off + n * sz) (xv : Value) (hx : a.eval x = xv) (m : Nat) (news : List Value) (hs : Src P sz tx xv m news w) (hB : B.length = m * sz) (hroom : n + m ≤ cap)
    (h : K (a.put o.dst (.slice (some ⟨g, off, none⟩) (n + m) cap)) (w.setRow g (A ++ news ++ C).toArray)) :
    if Region.wanted o (yielded ops a.tmps) = true then Oper.wp P o a w K Q else E := by
  have hw : Region.wanted o (yielded ops a.tmps) = true := by simp [Region.wanted, hgd]
  rw [if_pos hw]
  have hr := run_append_p (P := P) w t tx o.type e i sz ht hi hsize g off n cap A B C hg hA xv m news hs hB hroom
  unfold Oper.wp execOp
  simp only [ho, resolve, invoke, builtin, Sem.run_bind, Sem.run_pure, Result.andThen_ok, List.map_toArray, List.map_cons, List.map_nil, hsv, hx, hr]
  exact h
/-- copy, onto a part of a row -/
theorem run_copy_p (t tx ty : TypeId) (e : TypeId) (i : TypeInfo) (sz : Nat) (ht : P.underlying t = some (.slice e)) (hi : P.info? e = some i) (hsize : i.size = sz) (g off cap m : Nat) (A B C : List Value)
    (hg : w.heap[g]? = some (.cells (A ++ B ++ C).toArray e (0, 0))) (hA : A.length = off) (x : Value) (news : List Value) (hs : Src P sz tx x m news w) (hB : B.length = m * sz) :
    (Builtin.copy_ #[t, tx] ty #[.slice (some ⟨g, off, none⟩) m cap, x]).run P w = .ok (goInt m) (w.setRow g (A ++ news ++ C).toArray) := by
  subst hsize
  have hnl : news.length = m * i.size := by simpa using hs.newsLen
  have hst := run_store_row (P := P) w g off e A B C news hg hA (by rw [hB, hnl]) hs.one
  simp [Builtin.copy_, run_underlying ht, sizeOf, typeInfo, hi, hs.len, hs.cells, hst]
theorem wpList_copy_p {ops : Array Oper} {rest : List Oper} {o : Oper} {a : Act} {Q : Exit → Act → World → Prop} (hgd : o.guard = none) (s x : Operand) (t tx : TypeId)
    (ho : o.op = .call { callee := .builtin .copy, args := #[s, x], argTypes := #[t, tx] })
    (e : TypeId) (i : TypeInfo) (sz : Nat) (ht : P.underlying t = some (.slice e)) (hi : P.info? e = some i) (hsize : i.size = sz) (g off cap m : Nat) (A B C : List Value) (hsv : a.eval s = .slice (some ⟨g, off, none⟩) m cap)
    (hg : w.heap[g]? = some (.cells (A ++ B ++ C).toArray e (0, 0))) (hA : A.length = off) (xv : Value) (hx : a.eval x = xv) (news : List Value) (hs : Src P sz tx xv m news w) (hB : B.length = m * sz)
    (h : wpList P ops Q rest (a.put o.dst (goInt m)) (w.setRow g (A ++ news ++ C).toArray)) : wpList P ops Q (o :: rest) a w :=
  wpList_plain hgd fun _ hK => by
    have hr := run_copy_p (P := P) w t tx o.type e i sz ht hi hsize g off cap m A B C hg hA xv news hs hB
    unfold Oper.wp execOp
    simp only [ho, resolve, invoke, builtin, Sem.run_bind, Sem.run_pure, Result.andThen_ok, List.map_toArray, List.map_cons, List.map_nil, hsv, hx, hr]
    exact hK _ _ h
/-- nothing is copied -/
theorem run_copy_p0 (t tx ty : TypeId) (e : TypeId) (i : TypeInfo) (ht : P.underlying t = some (.slice e)) (hi : P.info? e = some i) (b : Option Addr) (cap : Nat) (c : Option Addr) (m k : Nat) :
    (Builtin.copy_ #[t, tx] ty #[.slice b 0 cap, .slice c m k]).run P w = .ok (goInt 0) w := by
  have hl : (Builtin.lenOf (.slice c m k)).run P w = .ok m w := rfl
  have hf : (Builtin.firstCells i.size 0 (.slice c m k)).run P w = .ok #[] w := by
    cases c with
    | none => simp [Builtin.firstCells]
    | some y => exact run_firstCells_some w i.size 0 y m k [] (by simp) (fun j v hj => by simp at hj)
  cases b <;> simp [Builtin.copy_, run_underlying ht, sizeOf, typeInfo, hi, hl, hf, storeCells]
theorem wpList_copy_p0 {ops : Array Oper} {rest : List Oper} {o : Oper} {a : Act} {Q : Exit → Act → World → Prop} (hgd : o.guard = none) (s x : Operand) (t tx : TypeId)
    (ho : o.op = .call { callee := .builtin .copy, args := #[s, x], argTypes := #[t, tx] })
    (e : TypeId) (i : TypeInfo) (ht : P.underlying t = some (.slice e)) (hi : P.info? e = some i) (b : Option Addr) (cap : Nat) (c : Option Addr) (m k : Nat) (hsv : a.eval s = .slice b 0 cap) (hx : a.eval x = .slice c m k)
    (h : wpList P ops Q rest (a.put o.dst (goInt 0)) w) : wpList P ops Q (o :: rest) a w :=
  wpList_plain hgd fun _ hK => by
    have hr := run_copy_p0 (P := P) w t tx o.type e i ht hi b cap c m k
    unfold Oper.wp execOp
    simp only [ho, resolve, invoke, builtin, Sem.run_bind, Sem.run_pure, Result.andThen_ok, List.map_toArray, List.map_cons, List.map_nil, hsv, hx, hr]
    exact hK _ _ h
/-- append of zeros that grows -/
theorem run_append_zeros (t tx ty : TypeId) (e : TypeId) (i : TypeInfo) (z : Value) (k : IntKind) (ht : P.underlying t = some (.slice e)) (htx : P.underlying tx = some (.int k)) (hi : P.info? e = some i) (hz : i.zero = some z) (hsz : 0 < i.size) (b : Option Addr) (n cap : Nat) (olds : List Value)
    (hold : (Builtin.firstCells i.size n (.slice b n cap)).run P w.drew = .ok olds.toArray w.drew) (m : Nat) (hm0 : 0 < m) (hg : cap < n + m) (h63 : n + m ≤ maxLen) (hbytes : (n + m) * i.bytes ≤ 140737488355328) :
    (Builtin.append_ #[t, tx] ty #[.slice b n cap, .int .i64 m]).run P w = .ok (.slice (some ⟨w.heap.size, 0, none⟩) (n + m) (grownCap w (n + m) cap e))
      (w.drew.alloc (.cells ((olds ++ (Builtin.zeroCells z.cells m).toList).toArray ++ Builtin.zeroCells z.cells (grownCap w (n + m) cap e - (n + m))) e)) := by
  have hn : ¬ (n + m ≤ cap) := by omega
  unfold maxLen at h63
  have hmb : m * i.bytes ≤ (n + m) * i.bytes := Nat.mul_le_mul_right _ (by omega)
  have h63' : ¬ (9223372036854775807 < ((n : Int) + (m : Int))) := by omega
  have hfit : Builtin.nextslicecap (n + m) cap * i.bytes ≤ 281474976710656 := growslice_fits (by omega) hbytes
  have h48' : ¬ (281474976710656 < Builtin.nextslicecap (n + m) cap * i.bytes) := by omega
  have hw : IntKind.i64.wrap (m : Int) = (m : Int) := IntWalk.i64_in _ (by omega)
  have h0 : ¬ ((m : Int) < 0) := by omega
  have h1 : ¬ (281474976710656 < (m : Int) * (i.bytes : Int)) := by
    have : ((m * i.bytes : Nat) : Int) = (m : Int) * (i.bytes : Int) := by simp
    omega
  have h2 : ¬ (m * i.size = 0) := by
    have := Nat.mul_pos hm0 hsz
    omega
  have h3 : ¬ (m = 0) := by omega
  have h4 : ¬ (i.size = 0) := by omega
  have hai : (asIntOf (.int .i64 (m : Int))).run P w = .ok (.i64, (m : Int)) w := rfl
  simp [Builtin.append_, run_underlying ht, run_underlying htx, sizeOf, typeInfo, zeroValue, hi, hz, asInt, hai, hw, h0, h1, h2, h3, h4, hn, h63', h48', Question.forced, hold, newRow, grownCap]
  congr 2
  apply Array.ext'
  simp [List.append_assoc]
theorem wpList_append_zeros {ops : Array Oper} {rest : List Oper} {o : Oper} {a : Act} {Q : Exit → Act → World → Prop} (hgd : o.guard = none) (s x : Operand) (t tx : TypeId)
    (ho : o.op = .call { callee := .builtin .append, args := #[s, x], argTypes := #[t, tx] })
    (e : TypeId) (i : TypeInfo) (z : Value) (k : IntKind) (ht : P.underlying t = some (.slice e)) (htx : P.underlying tx = some (.int k)) (hi : P.info? e = some i) (hz : i.zero = some z) (hsz : 0 < i.size) (b : Option Addr) (n cap : Nat) (olds : List Value) (hsv : a.eval s = .slice b n cap)
    (hold : (Builtin.firstCells i.size n (.slice b n cap)).run P w.drew = .ok olds.toArray w.drew) (m : Nat) (hx : a.eval x = .int .i64 m) (hm0 : 0 < m) (hg : cap < n + m) (h63 : n + m ≤ maxLen) (hbytes : (n + m) * i.bytes ≤ 140737488355328)
    (h : ∀ cap', n + m ≤ cap' → cap' ≤ maxLen → ∀ w', Hid (w' = w.drew.alloc (.cells ((olds ++ (Builtin.zeroCells z.cells m).toList).toArray ++ Builtin.zeroCells z.cells (cap' - (n + m))) e)) → wpList P ops Q rest (a.put o.dst (.slice (some ⟨w.heap.size, 0, none⟩) (n + m) cap')) w') : wpList P ops Q (o :: rest) a w :=
  wpList_plain hgd fun _ hK => by
    have hr := run_append_zeros (P := P) w t tx o.type e i z k ht htx hi hz hsz b n cap olds hold m hm0 hg h63 hbytes
    unfold Oper.wp execOp
    simp only [ho, resolve, invoke, builtin, Sem.run_bind, Sem.run_pure, Result.andThen_ok, List.map_toArray, List.map_cons, List.map_nil, hsv, hx, hr]
    exact hK _ _ (h _ (grownCap_ge w (n + m) cap e) (grownCap_le_maxLen w (n + m) cap e h63) _ (Lib.hid rfl))
/-- clear -/
theorem run_clear_p (t ty : TypeId) (e : TypeId) (i : TypeInfo) (z : Value) (ht : P.underlying t = some (.slice e)) (hi : P.info? e = some i) (hz : i.zero = some z) (g off cap m : Nat) (hm : 0 < m) (A B C : List Value)
    (hg : w.heap[g]? = some (.cells (A ++ B ++ C).toArray e (0, 0))) (hA : A.length = off) (hB : B.length = (Builtin.zeroCells z.cells m).toList.length) (h1 : ∀ u ∈ (Builtin.zeroCells z.cells m).toList, u.oneCell' = true) :
    (Builtin.clear_ #[t] ty #[.slice (some ⟨g, off, none⟩) m cap]).run P w = .ok (.tuple #[]) (w.setRow g (A ++ (Builtin.zeroCells z.cells m).toList ++ C).toArray) := by
  have hst := run_store_row (P := P) w g off e A B C _ hg hA hB h1
  obtain ⟨q, rfl⟩ : ∃ q, m = q + 1 := ⟨m - 1, by omega⟩
  simp [Builtin.clear_, run_underlying ht, zeroValue, typeInfo, hi, hz, hst]
theorem wpList_clear_p {ops : Array Oper} {rest : List Oper} {o : Oper} {a : Act} {Q : Exit → Act → World → Prop} (hgd : o.guard = none) (s : Operand) (t : TypeId)
    (ho : o.op = .call { callee := .builtin .clear, args := #[s], argTypes := #[t] })
    (e : TypeId) (i : TypeInfo) (z : Value) (ht : P.underlying t = some (.slice e)) (hi : P.info? e = some i) (hz : i.zero = some z) (g off cap m : Nat) (hm : 0 < m) (A B C : List Value) (hsv : a.eval s = .slice (some ⟨g, off, none⟩) m cap)
    (hg : w.heap[g]? = some (.cells (A ++ B ++ C).toArray e (0, 0))) (hA : A.length = off) (hB : B.length = (Builtin.zeroCells z.cells m).toList.length) (h1 : ∀ u ∈ (Builtin.zeroCells z.cells m).toList, u.oneCell' = true)
    (h : wpList P ops Q rest (a.put o.dst (.tuple #[])) (w.setRow g (A ++ (Builtin.zeroCells z.cells m).toList ++ C).toArray)) : wpList P ops Q (o :: rest) a w :=
  wpList_plain hgd fun _ hK => by
    have hr := run_clear_p (P := P) w t o.type e i z ht hi hz g off cap m hm A B C hg hA hB h1
    unfold Oper.wp execOp
    simp only [ho, resolve, invoke, builtin, Sem.run_bind, Sem.run_pure, Result.andThen_ok, List.map_toArray, List.map_cons, List.map_nil, hsv, hr]
    exact hK _ _ h
theorem step_append_q {ops : Array Oper} {o : Oper} {a : Act} {K : Act → World → Prop} {Q : Exit → Act → World → Prop} {E : Prop} (hgd : o.guard = none) (s x : Operand) (t tx : TypeId)
    (ho : o.op = .call { callee := .builtin .append, args := #[s, x], argTypes := #[t, tx] })
    (e : TypeId) (i : TypeInfo) (sz : Nat) (ht : P.underlying t = some (.slice e)) (hi : P.info? e = some i) (hsize : i.size = sz) (g off n cap : Nat) (A B C : List Value) (hsv : a.eval s = .slice (some ⟨g, off, none⟩) n cap)
    (hg : w.heap[g]? = some (.cells (A ++ B ++ C).toArray e (0, 0))) (hA : A.length = off + n * sz) (xv : Value) (hx : a.eval x = xv) (m : Nat) (news : List Value) (hs : Src P sz tx xv m news w) (hB : B.length = m * sz) (hroom : n + m ≤ cap)
    (h : ∀ w', Hid (w'.heap[g]? = some (.cells (A ++ news ++ C).toArray e (0, 0))) → Kept [g] w w' → K (a.put o.dst (.slice (some ⟨g, off, none⟩) (n + m) cap)) w') :
    if Region.wanted o (yielded ops a.tmps) = true then Oper.wp P o a w K Q else E :=
  step_append_p w hgd s x t tx ho e i sz ht hi hsize g off n cap A B C hsv hg hA xv hx m news hs hB hroom (h _ (Lib.hid (setRow_heap w g _ _ e _ hg)) (kept_setRow w g _))
theorem wpList_copy_q {ops : Array Oper} {rest : List Oper} {o : Oper} {a : Act} {Q : Exit → Act → World → Prop} (hgd : o.guard = none) (s x : Operand) (t tx : TypeId)
    (ho : o.op = .call { callee := .builtin .copy, args := #[s, x], argTypes := #[t, tx] })
    (e : TypeId) (i : TypeInfo) (sz : Nat) (ht : P.underlying t = some (.slice e)) (hi : P.info? e = some i) (hsize : i.size = sz) (g off cap m : Nat) (A B C : List Value) (hsv : a.eval s = .slice (some ⟨g, off, none⟩) m cap)
    (hg : w.heap[g]? = some (.cells (A ++ B ++ C).toArray e (0, 0))) (hA : A.length = off) (xv : Value) (hx : a.eval x = xv) (news : List Value) (hs : Src P sz tx xv m news w) (hB : B.length = m * sz)
    (h : ∀ w', Hid (w'.heap[g]? = some (.cells (A ++ news ++ C).toArray e (0, 0))) → Kept [g] w w' → wpList P ops Q rest (a.put o.dst (goInt m)) w') : wpList P ops Q (o :: rest) a w :=
  wpList_copy_p w hgd s x t tx ho e i sz ht hi hsize g off cap m A B C hsv hg hA xv hx news hs hB (h _ (Lib.hid (setRow_heap w g _ _ e _ hg)) (kept_setRow w g _))
end
section
variable {P : Program} (w : World)
/-- append onto a slice without room: a new row -/
theorem run_append_full (t tx ty : TypeId) (e : TypeId) (i : TypeInfo) (z : Value) (sz bytes : Nat) (ht : P.underlying t = some (.slice e)) (hi : P.info? e = some i) (hz : i.zero = some z)
    (hsize : i.size = sz) (hsz : 0 < sz) (hby : i.bytes = bytes) (hzs : z.cells.size = sz)
    (a : Option Addr) (n : Nat) (xs : List Value) (hown : SlR w e sz a n n xs) (x : Value) (m : Nat) (hm0 : 0 < m) (news : List Value) (hs : Src P sz tx x m news w)
    (h63 : n + m ≤ maxLen) (hbytes : (n + m) * bytes ≤ 140737488355328) :
    ∃ a' cap' w', (Builtin.append_ #[t, tx] ty #[.slice a n n, x]).run P w = .ok (.slice a' (n + m) cap') w' ∧ SlR w' e sz a' (n + m) cap' (xs ++ news) ∧ Below w.heap.size w w' ∧
      ∀ b ∈ blk a' cap', w.heap.size ≤ b := by
  have hnl : news.length = m * sz := by simpa using hs.newsLen
  have hxl : xs.length = n * sz := hown.len
  have h63' : ((n + m : Nat) : Int) ≤ 9223372036854775807 := by unfold maxLen at h63; omega
  have hs' : Src P i.size tx x m news w := by rw [hsize]; exact hs
  have hlen : (xs ++ news).length = (n + m) * sz := by rw [List.length_append, hxl, hnl, Nat.add_mul]
  have hold : (Builtin.firstCells i.size n (.slice a n n)).run P w.drew = .ok xs.toArray w.drew := by
    cases hc0 : n with
    | zero =>
      subst hc0
      have hx0 : xs = [] := List.eq_nil_of_length_eq_zero (by omega)
      subst hx0
      cases a with
      | none => exact run_firstCells_none w.drew i.size 0 0 0
      | some y => exact run_firstCells_some w.drew i.size 0 y 0 0 [] (by simp) (fun j v hj => by simp at hj)
    | succ c =>
      obtain ⟨g, off, cur, rfl, hg, h1, h2⟩ := hown.rest (by omega)
      refine run_firstCells_some w.drew i.size (c + 1) ⟨g, off, none⟩ (c + 1) (c + 1) xs (by rw [hxl, hsize, hc0]) ?_
      intro j v hj
      have hjl : j < n * sz := by rw [← hxl]; exact (List.getElem?_eq_some_iff.1 hj).1
      rw [addr_add]
      have := cell_of_row w g (off + j) cur e (0, 0) hg
      rw [h2 j hjl, hj] at this
      exact this
  have hr := run_append_grow_src (P := P) w t tx ty e i z ht hi hz a n n xs hold x m news hs' (by omega) h63' (by rw [hby]; exact growslice_fits (by omega) hbytes)
  have hge := grownCap_ge w (n + m) n e
  have hgm := grownCap_le_maxLen w (n + m) n e h63
  refine ⟨_, _, _, hr, ⟨hlen, hge, hgm, fun _ => ⟨w.heap.size, 0, _, rfl, heap_alloc_new w.drew _, ?_, fun j hj => ?_⟩⟩, ⟨rfl, rfl, rfl, by simp, fun k hk => Below.heap_alloc w.drew _ k hk⟩, fun b hb => ?_⟩
  · simp only [Array.size_append, List.size_toArray, size_zeroCells, hzs]
    rw [hlen]
    have : grownCap w (n + m) n e = (n + m) + (grownCap w (n + m) n e - (n + m)) := by omega
    generalize grownCap w (n + m) n e - (n + m) = q at *
    rw [this, Nat.add_mul]
    omega
  · rw [Nat.zero_add, Array.getElem?_append_left (by simp only [List.size_toArray]; omega), List.getElem?_toArray]
  · rw [blk_some _ _ _ (by omega)] at hb
    simp at hb
    omega
theorem step_append_full {ops : Array Oper} {o : Oper} {a : Act} {K : Act → World → Prop} {Q : Exit → Act → World → Prop} {E : Prop} (hgd : o.guard = none) (s x : Operand) (t tx : TypeId)
    (ho : o.op = .call { callee := .builtin .append, args := #[s, x], argTypes := #[t, tx] })
    (e : TypeId) (i : TypeInfo) (z : Value) (sz bytes : Nat) (ht : P.underlying t = some (.slice e)) (hi : P.info? e = some i) (hz : i.zero = some z)
    (hsize : i.size = sz) (hsz : 0 < sz) (hby : i.bytes = bytes) (hzs : z.cells.size = sz)
    (ad : Option Addr) (n : Nat) (xs : List Value) (hsv : a.eval s = .slice ad n n) (hown : SlR w e sz ad n n xs) (xv : Value) (hx : a.eval x = xv) (m : Nat) (hm0 : 0 < m) (news : List Value) (hs : Src P sz tx xv m news w)
    (h63 : n + m ≤ maxLen) (hbytes : (n + m) * bytes ≤ 140737488355328)
    (h : ∀ a' cap' w', SlR w' e sz a' (n + m) cap' (xs ++ news) → Below w.heap.size w w' → (∀ b ∈ blk a' cap', w.heap.size ≤ b) → K (a.put o.dst (.slice a' (n + m) cap')) w') :
    if Region.wanted o (yielded ops a.tmps) = true then Oper.wp P o a w K Q else E := by
  have hw : Region.wanted o (yielded ops a.tmps) = true := by simp [Region.wanted, hgd]
  rw [if_pos hw]
  obtain ⟨a', cap', w', hr, h2, h3, h4⟩ := run_append_full (P := P) w t tx o.type e i z sz bytes ht hi hz hsize hsz hby hzs ad n xs hown xv m hm0 news hs h63 hbytes
  unfold Oper.wp execOp
  simp only [ho, resolve, invoke, builtin, Sem.run_bind, Sem.run_pure, Result.andThen_ok, List.map_toArray, List.map_cons, List.map_nil, hsv, hx, hr]
  exact h a' cap' w' h2 h3 h4
end
/-- how a row is cut where something is set in a place's stead -/
theorem rep_cut (P xs R : List Value) (off n cap f t E m : Nat) (hP : P.length = off) (hx : xs.length = n * 2) (hr : cap * 2 ≤ xs.length + R.length) (hft : f ≤ t) (htn : t ≤ n) (hE : E = f + m) (hc : n + m ≤ cap) :
    ∃ A1 B1 C1 B2, P ++ xs ++ R = A1 ++ B1 ++ C1 ∧ A1.length = off + E * 2 ∧ B1.length = (n - t) * 2 ∧ A1 = (P ++ xs.take (f * 2)) ++ B2 ∧ B2.length = m * 2 ∧ (P ++ xs.take (f * 2)).length = off + f * 2 ∧ cap * 2 ≤ (E + (n - t)) * 2 + C1.length := by
  refine ⟨P ++ (xs ++ R).take (E * 2), ((xs ++ R).drop (E * 2)).take ((n - t) * 2), ((xs ++ R).drop (E * 2)).drop ((n - t) * 2), ((xs ++ R).take (E * 2)).drop (f * 2), ?_, ?_, ?_, ?_, ?_, ?_, ?_⟩
  · rw [List.append_assoc, List.append_assoc, List.append_assoc, List.take_append_drop, List.take_append_drop]
  · simp only [List.length_append, List.length_take, hP]; omega
  · simp only [List.length_append, List.length_take, List.length_drop]; omega
  · have : xs.take (f * 2) = ((xs ++ R).take (E * 2)).take (f * 2) := by
      rw [List.take_take, show min (f * 2) (E * 2) = f * 2 by omega, List.take_append_of_le_length (by omega)]
    rw [this, List.append_assoc, List.take_append_drop]
  · simp only [List.length_append, List.length_take, List.length_drop]; omega
  · simp only [List.length_append, List.length_take, hP]; omega
  · simp only [List.length_append, List.length_drop]; omega
end Go.Proofs.Ytahegkbdefhlpaa.mem
