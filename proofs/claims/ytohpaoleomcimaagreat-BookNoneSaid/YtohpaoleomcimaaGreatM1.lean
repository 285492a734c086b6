/-
  Several texts in one: Aid Mem Rng BokX CavX CavW CavB CavY CavP
-/
import Derived.WalkKit
import Derived.WalkLawsBesides
import Derived.WalkSpells
import Derived.Handy
import Derived.Lib.Hide
import Derived.Deep.AppendLies
import Derived.Deep.AppendSrc
import Derived.Deep.RegionHeld3
import Derived.Deep.QuietTactic
import Derived.BigQuiet
import Derived.WalkSmall
import Derived.OneCell
import Derived.Laws.OwnMore
import Derived.Deep.RegionLaw
import Derived.Deep.DeepCutAuto
import Derived.Deep.Light
import Derived.Deep.LoopGhost
import Derived.Deep.DeepFit
import Derived.Outline
import Derived.RangeFuncNested
import Derived.RangeFuncBound
import Derived.RangeFuncCalls
import Derived.RangeFuncLeaves
import Derived.OrdersIn
import Derived.Test.YtohpaoleomcimaaGreatProg
import Derived.Laws.StructEq
import Derived.Deep.DrawnRows
/-!   Small facts on numbers, for walks. Imports nothing of the program.
-/
namespace Go.Proofs.YtohpaoleomcimaaGreat.aid
open Go.RowKit

theorem ret_i {k : IntKind} {a b : Int} (h : a = b) : Ending.returned (.int k a) = .returned (.int k b) := by rw [h]
theorem ret_b {a b : Bool} (h : a = b) : Ending.returned (.bool a) = .returned (.bool b) := by rw [h]

theorem tmod_pos (n m : Int) (h0 : 0 ≤ n) : n.tmod m = n % m := Int.tmod_eq_emod_of_nonneg h0

/-- the remainder cut towards nought, by a modulus above 0 -/
theorem tmod_or (n m : Int) (hm : 0 < m) : (0 ≤ n.tmod m ∧ n.tmod m = n % m) ∨ (n.tmod m < 0 ∧ n.tmod m = n % m - m) := by
  by_cases h0 : 0 ≤ n
  · left
    rw [Int.tmod_eq_emod_of_nonneg h0]
    exact ⟨Int.emod_nonneg _ (by omega), rfl⟩
  · have h := Int.tmod_eq_emod (a := n) (b := m)
    have h1 := Int.emod_nonneg n (b := m) (by omega)
    have h2 := Int.emod_lt_of_pos n hm
    by_cases hd : m ∣ n
    · left
      rw [h]
      have hz : n % m = 0 := Int.emod_eq_zero_of_dvd hd
      simp [hd, hz]
    · right
      rw [h]
      have hz : n % m ≠ 0 := fun e => hd (Int.dvd_of_emod_eq_zero e)
      have ha : (m.natAbs : Int) = m := by omega
      simp [hd, h0, ha]
      omega

theorem w64 (n : Int) (h : -9223372036854775808 ≤ n ∧ n ≤ 9223372036854775807) : wrap64 n = n := by unfold wrap64; omega
theorem w32 (n : Int) (h : -2147483648 ≤ n ∧ n ≤ 2147483647) : wrap32 n = n := by unfold wrap32; omega
theorem w32_bd (n : Int) : -2147483648 ≤ wrap32 n ∧ wrap32 n ≤ 2147483647 := by unfold wrap32; omega

/-- what is told of a slice of integers that came in: it is nil; or it leads to a row of 'cap' cells, the numbers 'zs' (the first 'len' are its elements), each fitting its kind -/
def IsRow (k : IntKind) (w : World) (a : Option Addr) (len cap : Nat) (zs : List Int) : Prop :=
  (a = none ∧ len = 0 ∧ cap = 0 ∧ zs = []) ∨
  ∃ x, a = some x ∧ len ≤ cap ∧ cap ≤ maxLen ∧ zs.length = cap ∧ (∀ i, i < zs.length → w.cell? (x.add i) = some (.int k (zs.getD i 0))) ∧ ∀ n ∈ zs, (Lit.int k n).wf = true

/-- the elements of such a slice: there are none; or they lie at a place -/
theorem IsRow.elems {k : IntKind} {w : World} {a : Option Addr} {len cap : Nat} {zs : List Int} (h : IsRow k w a len cap zs) :
    len = 0 ∨ ∃ b off, a = some ⟨b, off, none⟩ ∧ len ≤ 9223372036854775807 ∧ (zs.take len).length = len ∧ (∀ i, i < len → w.cell? ⟨b, off + i, none⟩ = some (.int k ((zs.take len).getD i 0))) ∧ ∀ n ∈ zs.take len, (Lit.int k n).wf = true := by
  rcases h with ⟨_, h, _, _⟩ | ⟨x, hx, h1, h2, h3, h4, h5⟩
  · exact .inl h
  · by_cases h0 : len = 0
    · exact .inl h0
    · right
      obtain ⟨b, off, rfl, hc⟩ := ints_at h4 (by omega)
      refine ⟨b, off, hx, by unfold maxLen at h2; omega, by simp; omega, ?_, fun n hn => h5 n (List.mem_of_mem_take hn)⟩
      intro i hi
      rw [hc i (by omega)]
      congr 2
      simp [List.getD, hi]

theorem getD_bd {zs : List Int} (P : Int → Prop) (h0 : P 0) (h : ∀ n ∈ zs, P n) (j : Nat) : P (zs.getD j 0) := by
  by_cases hj : j < zs.length
  · simp only [List.getD, List.getElem?_eq_getElem hj, Option.getD_some]
    exact h _ (List.getElem_mem _)
  · simp only [List.getD, List.getElem?_eq_none (Nat.le_of_not_lt hj), Option.getD_none]
    exact h0
end Go.Proofs.YtohpaoleomcimaaGreat.aid
/-!   Memory, for walks: what stays as it was ('Kept'), slices of integers that are read ('SlA'), append of whatever source onto a row of one's own. Imports nothing of the program.
-/
namespace Go.Proofs.YtohpaoleomcimaaGreat.mem
open Go.RowKit aid
set_option linter.unusedVariables false

/-! ### What stays as it was: all blocks but those of a list -/
structure Kept (S : List Nat) (w w' : World) : Prop where
  os : w'.os = w.os
  tape : w'.tape = w.tape
  output : w'.output = w.output
  size : w.heap.size ≤ w'.heap.size
  block : ∀ k, k < w.heap.size → k ∉ S → w'.heap[k]? = w.heap[k]?

theorem Kept.refl (S : List Nat) (w : World) : Kept S w w := ⟨rfl, rfl, rfl, Nat.le_refl _, fun _ _ _ => rfl⟩
theorem Kept.trans {S S' : List Nat} {a b c : World} (h : Kept S a b) (k : Kept S' b c) (hs : ∀ x ∈ S', x ∈ S ∨ a.heap.size ≤ x) : Kept S a c :=
  ⟨k.os.trans h.os, k.tape.trans h.tape, k.output.trans h.output, Nat.le_trans h.size k.size, fun x hx hn =>
    (k.block x (Nat.lt_of_lt_of_le hx h.size) (fun e => by rcases hs x e with e | e; exact hn e; omega)).trans (h.block x hx hn)⟩
theorem Kept.mono {S S' : List Nat} {a b : World} (h : Kept S a b) (hs : ∀ x ∈ S, x ∈ S' ∨ a.heap.size ≤ x) : Kept S' a b :=
  ⟨h.os, h.tape, h.output, h.size, fun x hx hn => h.block x hx (fun e => by rcases hs x e with e | e; exact hn e; omega)⟩
theorem Kept.drew {S : List Nat} {a w : World} (h : Kept S a w) : Kept S a w.drew := ⟨h.os, h.tape, h.output, h.size, h.block⟩
theorem Kept.drewN {S : List Nat} {a w : World} (h : Kept S a w) (n : Nat) : Kept S a (w.drewN n) := ⟨h.os, h.tape, h.output, h.size, h.block⟩
theorem Kept.alloc {S : List Nat} {a w : World} (h : Kept S a w) (o : Obj) : Kept S a (w.alloc o) :=
  ⟨h.os, h.tape, h.output, by simp; exact Nat.le_succ_of_le h.size, fun k hk hn => (Below.heap_alloc w o k (Nat.lt_of_lt_of_le hk h.size)).trans (h.block k hk hn)⟩
theorem Kept.setCell {S : List Nat} {a w : World} (h : Kept S a w) {p : Addr} (hp : p.block ∈ S ∨ a.heap.size ≤ p.block) (u : Value) : Kept S a (w.setCell p u) :=
  ⟨h.os, h.tape, h.output, by simpa using h.size, fun k hk hn => (Below.heap_setCell w p u k (fun e => by subst e; rcases hp with e | e; exact hn e; omega)).trans (h.block k hk hn)⟩
theorem Kept.grown {S : List Nat} {a w w' : World} {row : Option Nat} (h : Kept S a w) (hg : w.grownBy w' row) (hr : ∀ k, row = some k → k ∈ S ∨ a.heap.size ≤ k) : Kept S a w' :=
  ⟨hg.os.trans h.os, hg.tape.trans h.tape, hg.output.trans h.output, Nat.le_trans h.size hg.size, fun k hk hn =>
    (hg.block k (Nat.lt_of_lt_of_le hk h.size) (fun e => by rcases hr k e.symm with e | e; exact hn e; omega)).trans (h.block k hk hn)⟩
theorem Kept.of_below {B : Nat} {w w' : World} (h : Below B w w') (hB : w.heap.size ≤ B) (S : List Nat) : Kept S w w' :=
  ⟨h.os, h.tape, h.output, h.size, fun k hk _ => h.block k (by omega)⟩
theorem Kept.below {S : List Nat} {B : Nat} {w w' : World} (h : Kept S w w') (hS : ∀ k ∈ S, B ≤ k) (hB : B ≤ w.heap.size) : Below B w w' :=
  ⟨h.os, h.tape, h.output, h.size, fun k hk => h.block k (by omega) (fun e => by have := hS k e; omega)⟩
theorem Kept.cell {S : List Nat} {w w' : World} (h : Kept S w w') {p : Addr} {v : Value} (hp : p.block ∉ S) (hc : w.cell? p = some v) : w'.cell? p = some v :=
  (World.cell?_of_block (h.block p.block (World.block_lt_of_cell? w p hc) hp)).trans hc
theorem Kept.frozen {S : List Nat} {w w' : World} (h : Kept S w w') {p : Addr} {v : Value} (hp : p.block ∉ S) (hc : w.cell? p = some v) : w'.frozen? p = w.frozen? p :=
  World.frozen?_of_block (h.block p.block (World.block_lt_of_cell? w p hc) hp)
theorem Kept.heap {S : List Nat} {w w' : World} (h : Kept S w w') {k : Nat} {o : Obj} (hp : k ∉ S) (hc : w.heap[k]? = some o) : w'.heap[k]? = some o :=
  (h.block k (lt_of_block hc) hp).trans hc
theorem Kept.own {S : List Nat} {w w' : World} (h : Kept S w w') {base : Nat} {e : TypeId} {size : Nat} {v : Value} {n : Nat} {xs : List Value} (hp : ∀ k, v.ownBlock = some k → k ∉ S) (ho : w.ownsRow base e size v n xs) : w'.ownsRow base e size v n xs := by
  refine ⟨ho.1, ?_⟩
  rcases ho.2 with hn | ⟨g, cap, cur, rfl, hb, hgg, rest⟩
  · exact .inl hn
  · exact .inr ⟨g, cap, cur, rfl, hb, h.heap (hp g rfl) hgg, rest⟩
theorem own_base {w : World} {base base' : Nat} {e : TypeId} {size : Nat} {v : Value} {n : Nat} {xs : List Value} (ho : w.ownsRow base e size v n xs) (hb : ∀ k, v.ownBlock = some k → base' ≤ k) : w.ownsRow base' e size v n xs := by
  refine ⟨ho.1, ?_⟩
  rcases ho.2 with hn | ⟨g, cap, cur, rfl, _, hgg, rest⟩
  · exact .inl hn
  · exact .inr ⟨g, cap, cur, rfl, hb g rfl, hgg, rest⟩

theorem set_other {w : World} {a b : Addr} {v : Value} (h : a ≠ b) : (w.setCell a v).cell? b = w.cell? b := by apply World.cell?_setCell_other; exact h
theorem set_same {w : World} {a : Addr} {v u : Value} (h : w.cell? a = some u) : (w.setCell a v).cell? a = some v := by apply World.cell?_setCell_same; exact h

/-! ### A slice of integers that is read -/
def ints (k : IntKind) (l : List Int) : List Value := l.map (Value.int k)
structure SlA (k : IntKind) (w : World) (a : Option Addr) (n cap : Nat) (l : List Int) : Prop where
  len : l.length = n
  le : n ≤ cap
  most : cap ≤ maxLen
  nil : a = none → cap = 0
  cells : 0 < cap → ∃ b off, a = some ⟨b, off, none⟩ ∧ ∀ i, i < n → w.cell? ⟨b, off + i, none⟩ = some (.int k (l.getD i 0))

theorem SlA.keep {k : IntKind} {w w' : World} {a : Option Addr} {n cap : Nat} {l : List Int} (h : SlA k w a n cap l) {S : List Nat} (hk : Kept S w w') (hd : ∀ x, a = some x → x.block ∉ S) : SlA k w' a n cap l :=
  ⟨h.len, h.le, h.most, h.nil, fun h0 => by
    obtain ⟨b, off, rfl, hc⟩ := h.cells h0
    exact ⟨b, off, rfl, fun i hi => hk.cell (p := ⟨b, off + i, none⟩) (hd ⟨b, off, none⟩ rfl) (hc i hi)⟩⟩
theorem SlA.keepIf {k : IntKind} {w w' : World} {a : Option Addr} {n cap : Nat} {l : List Int} (h : SlA k w a n cap l) {S : List Nat} (hk : Kept S w w') (hd : ∀ x, a = some x → 0 < cap → x.block ∉ S) : SlA k w' a n cap l :=
  ⟨h.len, h.le, h.most, h.nil, fun h0 => by
    obtain ⟨b, off, rfl, hc⟩ := h.cells h0
    exact ⟨b, off, rfl, fun i hi => hk.cell (p := ⟨b, off + i, none⟩) (hd ⟨b, off, none⟩ rfl h0) (hc i hi)⟩⟩
theorem SlA.later {k : IntKind} {w w' : World} {a : Option Addr} {n cap : Nat} {l : List Int} (h : SlA k w a n cap l) (hk : Below w.heap.size w w') : SlA k w' a n cap l :=
  h.keep (Kept.of_below hk (Nat.le_refl _) []) (fun _ _ => by simp)

theorem SlA.drew {k : IntKind} {w : World} {a : Option Addr} {n cap : Nat} {l : List Int} (h : SlA k w a n cap l) : SlA k w.drew a n cap l := h.keep (Kept.refl [] w).drew (fun _ _ => by simp)
theorem SlA.drewN {k : IntKind} {w : World} {a : Option Addr} {n cap : Nat} {l : List Int} (h : SlA k w a n cap l) (q : Nat) : SlA k (w.drewN q) a n cap l := h.keep ((Kept.refl [] w).drewN q) (fun _ _ => by simp)
theorem getD_map_some {k : IntKind} {l : List Int} {j : Nat} (hj : j < l.length) : (l.map (Value.int k))[j]? = some (Value.int k (l.getD j 0)) := by simp [List.getD, hj]

/-- what it yields as an append's second argument -/
theorem SlA.src {P : Program} {k : IntKind} {w : World} {a : Option Addr} {n cap : Nat} {l : List Int} (h : SlA k w a n cap l) {t e : TypeId} (ht : P.underlying t = some (.slice e)) :
    Src P 1 t (.slice a n cap) n (ints k l) w := by
  have h1 : ∀ u ∈ ints k l, u.oneCell' = true := by
    intro u hu
    obtain ⟨_, _, rfl⟩ := List.mem_map.1 hu
    rfl
  have hl : (ints k l).length = n * 1 := by simp [ints, h.len]
  cases a with
  | none =>
    have h0 : cap = 0 := h.nil rfl
    have hle := h.le
    have hn : n = 0 := by omega
    have hll := h.len
    obtain rfl : l = [] := List.eq_nil_of_length_eq_zero (by omega)
    subst hn
    exact Src.ofNil w ht cap
  | some x =>
    refine Src.ofSlice w ht x n cap _ hl ?_ h1
    intro j u hu
    have hj : j < l.length := by simpa [ints] using (List.getElem?_eq_some_iff.1 hu).1
    rw [ints, getD_map_some hj] at hu
    obtain ⟨b, off, hx, hc⟩ := h.cells (by have := h.len; have := h.le; omega)
    obtain rfl : x = ⟨b, off, none⟩ := by injection hx
    have hadd : (⟨b, off, none⟩ : Addr).add j = ⟨b, off + j, none⟩ := by unfold Addr.add; split <;> simp_all
    rw [hadd, hc j (by have := h.len; omega)]
    exact hu

/-- a row of one's own is such a slice -/
theorem sl_of_own {w : World} {base : Nat} {e : TypeId} {k : IntKind} {v : Value} {n : Nat} {l : List Int} (h : w.ownsRow base e 1 v n (ints k l)) :
    ∃ a cap, v = .slice a n cap ∧ SlA k w a n cap l ∧ ∀ x, a = some x → v.ownBlock = some x.block := by
  have hl : l.length = n := by simpa [ints] using h.1
  rcases h.2 with ⟨rfl, rfl⟩ | ⟨g, cap, cur, rfl, hb, hg, hn, hm, hc, ht⟩
  · exact ⟨none, 0, rfl, ⟨hl, Nat.le_refl _, by unfold maxLen; omega, fun _ => rfl, fun h => by omega⟩, fun _ h => by cases h⟩
  · refine ⟨some ⟨g, 0, none⟩, cap, rfl, ⟨hl, hn, hm, (fun h => by cases h), fun _ => ⟨g, 0, rfl, fun i hi => ?_⟩⟩, fun x hx => by injection hx with hx; subst hx; rfl⟩
    rw [cell_of_row w g _ cur e (0, 0) hg]
    have : (ints k l)[i]? = cur[0 + i]? := by rw [← ht, List.getElem?_take]; simp; intro h; omega
    rw [← this, ints, getD_map_some (by omega)]

/-- a piece of such a slice, from its head on -/
theorem SlA.take {k : IntKind} {w : World} {a : Option Addr} {n cap : Nat} {l : List Int} (h : SlA k w a n cap l) (m : Nat) (hm : m ≤ n) : SlA k w a m cap (l.take m) :=
  ⟨by simp [h.len, hm], Nat.le_trans hm h.le, h.most, h.nil, fun h0 => by
    obtain ⟨b, off, rfl, hc⟩ := h.cells h0
    refine ⟨b, off, rfl, fun i hi => ?_⟩
    rw [hc i (by omega)]
    simp [List.getD, hi]⟩
/-- where the capacity ends at once the address stays; else it is moved -/
theorem SlA.drop_end {k : IntKind} {w : World} {a : Option Addr} {n cap : Nat} {l : List Int} (h : SlA k w a n cap l) (m : Nat) (hm : m ≤ n) (he : cap = m) : SlA k w a (n - m) 0 (l.drop m) :=
  ⟨by simp [h.len], (by have := h.le; omega), by simp [maxLen], fun _ => rfl, fun h0 => by omega⟩
theorem SlA.drop {k : IntKind} {w : World} {b off : Nat} {n cap : Nat} {l : List Int} (h : SlA k w (some ⟨b, off, none⟩) n cap l) (m : Nat) (hm : m ≤ n) (he : cap ≠ m) : SlA k w (some ⟨b, off + m, none⟩) (n - m) (cap - m) (l.drop m) :=
  ⟨by simp [h.len], (by have := h.le; omega), (by have := h.most; omega), (fun h => by cases h), fun h0 => by
    obtain ⟨b', off', hb, hc⟩ := h.cells (by omega)
    injection hb with hb
    injection hb with hb1 hb2
    subst hb1 hb2
    refine ⟨b, off + m, rfl, fun i hi => ?_⟩
    rw [Nat.add_assoc, hc (m + i) (by omega)]
    simp [List.getD]⟩

theorem own_form {w : World} {base : Nat} {e : TypeId} {size : Nat} {v : Value} {n : Nat} {xs : List Value} (h : w.ownsRow base e size v n xs) : ∃ a cap, v = .slice a n cap := by
  rcases h.2 with ⟨rfl, rfl⟩ | ⟨g, cap, cur, rfl, _⟩
  · exact ⟨none, 0, rfl⟩
  · exact ⟨_, cap, rfl⟩
theorem ints_append (k : IntKind) (l r : List Int) : ints k (l ++ r) = ints k l ++ ints k r := List.map_append

/-! ### append, of whatever source, onto a row of one's own -/
section
variable {P : Program} (w : World)

theorem run_append_any (t tx ty : TypeId) (base : Nat) (e : TypeId) (i : TypeInfo) (z : Value) (bytes : Nat) (ht : P.underlying t = some (.slice e)) (hi : P.info? e = some i) (hz : i.zero = some z)
    (hsize : i.size = 1) (hby : i.bytes = bytes) (hzs : z.cells.size = 1)
    (v : Value) (n : Nat) (xs : List Value) (hown : w.ownsRow base e 1 v n xs) (x : Value) (m : Nat) (news : List Value) (hs : Src P 1 tx x m news w)
    (h63 : n + m ≤ maxLen) (hbytes : (n + m) * bytes ≤ 140737488355328) (hbase : base ≤ w.heap.size) :
    ∃ v' w', (Builtin.append_ #[t, tx] ty #[v, x]).run P w = .ok v' w' ∧ w'.ownsRow base e 1 v' (n + m) (xs ++ news) ∧ w.grownBy w' v.ownBlock ∧
      (v'.ownBlock = v.ownBlock ∨ v'.ownBlock = some w.heap.size) := by
  have hnl : news.length = m := by simpa using hs.newsLen
  have hxl : xs.length = n := by simpa using hown.1
  have h63' : ((n + m : Nat) : Int) ≤ 9223372036854775807 := by unfold maxLen at h63; omega
  have hs' : Src P i.size tx x m news w := by rw [hsize]; exact hs
  have grow : ∀ (b : Option Addr) (cap : Nat), cap < n + m → (Builtin.firstCells i.size n (.slice b n cap)).run P w.drew = .ok xs.toArray w.drew →
      ∃ v' w', (Builtin.append_ #[t, tx] ty #[.slice b n cap, x]).run P w = .ok v' w' ∧ w'.ownsRow base e 1 v' (n + m) (xs ++ news) ∧ w.grownBy w' (Value.ownBlock (.slice b n cap)) ∧
      (v'.ownBlock = Value.ownBlock (.slice b n cap) ∨ v'.ownBlock = some w.heap.size) := by
    intro b cap hlt hold
    have hr := run_append_grow_src (P := P) w t tx ty e i z ht hi hz b n cap xs hold x m news hs' hlt h63' (by rw [hby]; exact growslice_fits (by omega) hbytes)
    refine ⟨_, _, hr, ⟨by simp [hxl, hnl], .inr ⟨w.heap.size, _, _, rfl, hbase, heap_alloc_new w.drew _, grownCap_ge _ _ _ _, grownCap_le_maxLen _ _ _ _ h63, ?_, ?_⟩⟩, ⟨rfl, rfl, rfl, by simp, fun k hk _ => Below.heap_alloc w.drew _ k hk⟩, .inr rfl⟩
    · have hge := grownCap_ge w (n + m) cap e
      simp only [Array.size_append, List.size_toArray, size_zeroCells, hzs, List.length_append, hxl, hnl]
      omega
    · simp only [Array.toList_append, Nat.mul_one]
      rw [show n + m = (xs ++ news).length from by simp [hxl, hnl]]
      exact List.take_left
  rcases hown.2 with ⟨rfl, rfl⟩ | ⟨g, cap, cur, rfl, hbg, hg, hnc, hcm, hcs, htake⟩
  · obtain rfl : xs = [] := List.eq_nil_of_length_eq_zero (by omega)
    by_cases hm : m = 0
    · subst hm
      obtain rfl : news = [] := List.eq_nil_of_length_eq_zero (by omega)
      refine ⟨.slice none 0 0, w, ?_, World.ownsRow_nil w base e 1, ⟨rfl, rfl, rfl, Nat.le_refl _, fun _ _ _ => rfl⟩, .inl rfl⟩
      have hc := hs'.cells
      rcases hs.kind with ⟨e', hk⟩ | hk <;> simp [Builtin.append_, run_underlying ht, run_underlying hk, sizeOf, typeInfo, hi, hs.len, hc]
    · exact grow none 0 (by omega) (run_firstCells_none w.drew i.size 0 0 0)
  · by_cases hroom : n + m ≤ cap
    · have hcell : ∀ j, w.cell? ⟨g, j, none⟩ = cur[j]? := fun j => cell_of_row w g j cur e (0, 0) hg
      have hfr : ∀ j, w.frozen? ⟨g, j, none⟩ = false := fun j => by simp [World.frozen?, hg]
      have hr := run_append_room_src (P := P) w t tx ty e i ht hi g 0 n cap x m news hs' hroom
        (fun j hj => by rw [hcell, hsize]; rw [Array.getElem?_eq_getElem (by rw [hcs]; omega)]; rfl) (fun j hj => hfr _)
      have hst := hr
      rw [hsize] at hr
      simp only [Nat.zero_add, Nat.mul_one] at hr
      have hsr : w.setCells g n news = w.setRow g (cur.toList.take n ++ news ++ cur.toList.drop (n + news.length)).toArray := by
        have h1 := run_append_room_src (P := P) w t tx ty e i ht hi g 0 n cap x m news hs' hroom
          (fun j hj => by rw [hcell, hsize]; rw [Array.getElem?_eq_getElem (by rw [hcs]; omega)]; rfl) (fun j hj => hfr _)
        have h2 := run_storeCells_at P g n e news 0 cur w hg (by omega) hs.one
        have h3 := run_storeCells_cells (P := P) g n news 0 w (fun j hj => by rw [hcell]; rw [Array.getElem?_eq_getElem (by rw [hcs]; omega)]; rfl) (fun j hj => hfr _) hs.one
        simp only [Nat.add_zero] at h2 h3
        rw [h2] at h3
        injection h3 with _ h3
        exact h3.symm
      rw [hsr] at hr
      refine ⟨_, _, hr, ⟨by simp [hxl, hnl], .inr ⟨g, cap, _, rfl, hbg, setRow_heap w g cur _ e _ hg, hroom, hcm, ?_, ?_⟩⟩, ⟨rfl, rfl, rfl, by simp, fun k _ hk => setRow_other w g k _ (fun e => hk (by simp [Value.ownBlock, e]))⟩, .inl rfl⟩
      · simp only [List.size_toArray, List.length_append, List.length_take, List.length_drop, Array.length_toList]
        omega
      · have ht' : cur.toList.take n = xs := by simpa using htake
        simp only [Nat.mul_one]
        rw [ht', show n + m = (xs ++ news).length from by simp [hxl, hnl]]
        exact List.take_left
    · refine grow (some ⟨g, 0, none⟩) cap (by omega) ?_
      exact run_firstCells_some w.drew i.size n ⟨g, 0, none⟩ n cap xs (by rw [hxl, hsize]; omega) (by have := hown.cells (g := g) rfl; simpa using this)

theorem wp_append_any {o : Oper} {a : Act} {K : Act → World → Prop} {Q : Exit → Act → World → Prop} (s x : Operand) (t tx : TypeId)
    (ho : o.op = .call { callee := .builtin .append, args := #[s, x], argTypes := #[t, tx] })
    (base : Nat) (e : TypeId) (i : TypeInfo) (z : Value) (bytes : Nat) (ht : P.underlying t = some (.slice e)) (hi : P.info? e = some i) (hz : i.zero = some z)
    (hsize : i.size = 1) (hby : i.bytes = bytes) (hzs : z.cells.size = 1)
    (v : Value) (n : Nat) (xs : List Value) (hsv : a.eval s = v) (hown : w.ownsRow base e 1 v n xs) (xv : Value) (hx : a.eval x = xv) (m : Nat) (news : List Value) (hs : Src P 1 tx xv m news w)
    (h63 : n + m ≤ maxLen) (hbytes : (n + m) * bytes ≤ 140737488355328) (hbase : base ≤ w.heap.size)
    (h : ∀ a' cap' w', w'.ownsRow base e 1 (.slice a' (n + m) cap') (n + m) (xs ++ news) → w.grownBy w' v.ownBlock → (Value.ownBlock (.slice a' (n + m) cap') = v.ownBlock ∨ Value.ownBlock (.slice a' (n + m) cap') = some w.heap.size) → K (a.put o.dst (.slice a' (n + m) cap')) w') : o.wp P a w K Q := by
  obtain ⟨v', w', hr, h2, h3, h4⟩ := run_append_any (P := P) w t tx o.type base e i z bytes ht hi hz hsize hby hzs v n xs hown xv m news hs h63 hbytes hbase
  unfold Oper.wp execOp
  obtain ⟨a', cap', rfl⟩ := own_form h2
  simp only [ho, resolve, invoke, builtin, Sem.run_bind, Sem.run_pure, Result.andThen_ok, List.map_toArray, List.map_cons, List.map_nil, hsv, hx, hr]
  exact h a' cap' w' h2 h3 h4

theorem wpList_append_any {ops : Array Oper} {rest : List Oper} {o : Oper} {a : Act} {Q : Exit → Act → World → Prop} (hgd : o.guard = none) (s x : Operand) (t tx : TypeId)
    (ho : o.op = .call { callee := .builtin .append, args := #[s, x], argTypes := #[t, tx] })
    (base : Nat) (e : TypeId) (i : TypeInfo) (z : Value) (bytes : Nat) (ht : P.underlying t = some (.slice e)) (hi : P.info? e = some i) (hz : i.zero = some z)
    (hsize : i.size = 1) (hby : i.bytes = bytes) (hzs : z.cells.size = 1)
    (v : Value) (n : Nat) (xs : List Value) (hsv : a.eval s = v) (hown : w.ownsRow base e 1 v n xs) (xv : Value) (hx : a.eval x = xv) (m : Nat) (news : List Value) (hs : Src P 1 tx xv m news w)
    (h63 : n + m ≤ maxLen) (hbytes : (n + m) * bytes ≤ 140737488355328) (hbase : base ≤ w.heap.size)
    (h : ∀ a' cap' w', w'.ownsRow base e 1 (.slice a' (n + m) cap') (n + m) (xs ++ news) → w.grownBy w' v.ownBlock → (Value.ownBlock (.slice a' (n + m) cap') = v.ownBlock ∨ Value.ownBlock (.slice a' (n + m) cap') = some w.heap.size) → wpList P ops Q rest (a.put o.dst (.slice a' (n + m) cap')) w') : wpList P ops Q (o :: rest) a w :=
  wpList_plain hgd fun _ hK => wp_append_any w s x t tx ho base e i z bytes ht hi hz hsize hby hzs v n xs hsv hown xv hx m news hs h63 hbytes hbase fun a' cap' w' h2 h3 h4 => hK _ _ (h a' cap' w' h2 h3 h4)

theorem step_append_any {ops : Array Oper} {o : Oper} {a : Act} {K : Act → World → Prop} {Q : Exit → Act → World → Prop} {E : Prop} (hgd : o.guard = none) (s x : Operand) (t tx : TypeId)
    (ho : o.op = .call { callee := .builtin .append, args := #[s, x], argTypes := #[t, tx] })
    (base : Nat) (e : TypeId) (i : TypeInfo) (z : Value) (bytes : Nat) (ht : P.underlying t = some (.slice e)) (hi : P.info? e = some i) (hz : i.zero = some z)
    (hsize : i.size = 1) (hby : i.bytes = bytes) (hzs : z.cells.size = 1)
    (v : Value) (n : Nat) (xs : List Value) (hsv : a.eval s = v) (hown : w.ownsRow base e 1 v n xs) (xv : Value) (hx : a.eval x = xv) (m : Nat) (news : List Value) (hs : Src P 1 tx xv m news w)
    (h63 : n + m ≤ maxLen) (hbytes : (n + m) * bytes ≤ 140737488355328) (hbase : base ≤ w.heap.size)
    (h : ∀ a' cap' w', w'.ownsRow base e 1 (.slice a' (n + m) cap') (n + m) (xs ++ news) → w.grownBy w' v.ownBlock → (Value.ownBlock (.slice a' (n + m) cap') = v.ownBlock ∨ Value.ownBlock (.slice a' (n + m) cap') = some w.heap.size) → K (a.put o.dst (.slice a' (n + m) cap')) w') :
    if Region.wanted o (yielded ops a.tmps) = true then Oper.wp P o a w K Q else E := by
  have hw : Region.wanted o (yielded ops a.tmps) = true := by simp [Region.wanted, hgd]
  rw [if_pos hw]
  exact wp_append_any w s x t tx ho base e i z bytes ht hi hz hsize hby hzs v n xs hsv hown xv hx m news hs h63 hbytes hbase h
end

/-- a slice of integers that came in, as a slice that is read -/
theorem sl_of_row {k : IntKind} {w : World} {a : Option Addr} {len cap : Nat} {zs : List Int} (h : IsRow k w a len cap zs) : SlA k w a len cap (zs.take len) := by
  rcases h with ⟨h1, h2, h3, h4⟩ | ⟨x, hx, h1, h2, h3, h4, h5⟩
  · subst h1 h2 h3 h4
    exact ⟨rfl, Nat.le_refl _, by simp [maxLen], fun _ => rfl, fun h => by omega⟩
  · refine ⟨by simp; omega, h1, h2, (fun h => by rw [hx] at h; cases h), fun h0 => ?_⟩
    obtain ⟨b, off, rfl, hc⟩ := ints_at h4 (by omega)
    refine ⟨b, off, hx, fun i hi => ?_⟩
    rw [hc i (by omega)]
    congr 2
    simp [List.getD, hi]
theorem wf_of_row {k : IntKind} {w : World} {a : Option Addr} {len cap : Nat} {zs : List Int} (h : IsRow k w a len cap zs) : ∀ n ∈ zs.take len, (Lit.int k n).wf = true := by
  rcases h with ⟨h1, h2, h3, h4⟩ | ⟨x, hx, h1, h2, h3, h4, h5⟩
  · subst h4; simp
  · exact fun n hn => h5 n (List.mem_of_mem_take hn)

/-- the cells of a new block that holds integers -/
theorem sl_new (k : IntKind) (t : TypeId) (w : World) (c : List Int) (hm : c.length ≤ maxLen) : SlA k (w.alloc (.cells (ints k c).toArray t)) (some ⟨w.heap.size, 0, none⟩) c.length c.length c :=
  ⟨rfl, Nat.le_refl _, hm, (fun h => by cases h), fun h0 => ⟨w.heap.size, 0, rfl, fun i hi => by
    rw [World.cell?_alloc_at _ _ _ _ rfl, List.getElem?_toArray, Nat.zero_add, ints, getD_map_some hi]⟩⟩

end Go.Proofs.YtohpaoleomcimaaGreat.mem
/-!   Ranges over functions, iterators within iterators among them: what a round writes and what an iterator writes are told apart by a set of blocks. Imports nothing of the program.
-/
namespace Go.Proofs.YtohpaoleomcimaaGreat.rng
open Go.RowKit mem
set_option linter.unusedVariables false

/-- a step that leaves some blocks as they lay -/
structure Steps (K : Nat → Prop) (W W' : World) : Prop where
  os : W'.os = W.os
  tape : W'.tape = W.tape
  output : W'.output = W.output
  size : W.heap.size ≤ W'.heap.size
  same : ∀ k, k < W.heap.size → K k → W'.heap[k]? = W.heap[k]?
theorem Steps.refl (K : Nat → Prop) (W : World) : Steps K W W := ⟨rfl, rfl, rfl, Nat.le_refl _, fun _ _ _ => rfl⟩
theorem Steps.trans {K : Nat → Prop} {A B C : World} (h : Steps K A B) (k : Steps K B C) : Steps K A C :=
  ⟨k.os.trans h.os, k.tape.trans h.tape, k.output.trans h.output, Nat.le_trans h.size k.size, fun x hx hk => (k.same x (Nat.lt_of_lt_of_le hx h.size) hk).trans (h.same x hx hk)⟩
theorem Steps.mono {K K' : Nat → Prop} {A B : World} (h : Steps K A B) (hk : ∀ k, k < A.heap.size → K' k → K k) : Steps K' A B :=
  ⟨h.os, h.tape, h.output, h.size, fun x hx q => h.same x hx (hk x hx q)⟩
theorem Steps.of_below {w w' : World} (h : Below w.heap.size w w') (K : Nat → Prop) : Steps K w w' := ⟨h.os, h.tape, h.output, h.size, fun k hk _ => h.block k hk⟩
theorem Steps.of_kept {S : List Nat} {w w' : World} (h : Kept S w w') (K : Nat → Prop) (hK : ∀ k ∈ S, ¬ K k) : Steps K w w' :=
  ⟨h.os, h.tape, h.output, h.size, fun k hk q => h.block k hk (fun e => hK k e q)⟩
theorem Steps.below {K : Nat → Prop} {w w' : World} {n : Nat} (h : Steps K w w') (hn : n ≤ w.heap.size) (hK : ∀ k, k < n → K k) : Below n w w' :=
  ⟨h.os, h.tape, h.output, h.size, fun k hk => h.same k (by omega) (hK k hk)⟩
theorem Steps.drew (K : Nat → Prop) (W : World) : Steps K W W.drew := ⟨rfl, rfl, rfl, Nat.le_refl _, fun _ _ _ => rfl⟩
theorem Steps.drewN (K : Nat → Prop) (W : World) (n : Nat) : Steps K W (W.drewN n) := ⟨rfl, rfl, rfl, Nat.le_refl _, fun _ _ _ => rfl⟩
theorem Steps.alloc (K : Nat → Prop) (W : World) (o : Obj) : Steps K W (W.alloc o) := .of_below ((Below.refl _ _).alloc (Nat.le_refl _) _) K
theorem Steps.setCell (K : Nat → Prop) (W : World) (p : Addr) (v : Value) (hp : ¬ K p.block) : Steps K W (W.setCell p v) :=
  .of_kept ((Kept.refl [p.block] W).setCell (.inl (by simp)) v) K (by simpa using hp)
theorem Steps.putObj (K : Nat → Prop) (W : World) (l : Nat) (o : Obj) (hl : ¬ K l) : Steps K W (W.putObj l o) :=
  ⟨rfl, rfl, rfl, by simp, fun k hk q => World.putObj_heap_other (fun e => hl (e ▸ q))⟩
theorem Steps.cell {K : Nat → Prop} {w w' : World} (h : Steps K w w') {p : Addr} {v : Value} (hp : K p.block) (hc : w.cell? p = some v) : w'.cell? p = some v :=
  (World.cell?_of_block (h.same p.block (World.block_lt_of_cell? w p hc) hp)).trans hc
theorem Steps.heap {K : Nat → Prop} {w w' : World} (h : Steps K w w') {k : Nat} {o : Obj} (hp : K k) (hc : w.heap[k]? = some o) : w'.heap[k]? = some o :=
  (h.same k (lt_of_block hc) hp).trans hc

/-- a call of yield -/
def Yd (P : Program) (l : Nat) (args : Array Value) (W : World) (R : Ending → World → Prop) : Prop := YieldAt Fence.wide 0 P l args W R
theorem Yd.at {P : Program} {l : Nat} {args : Array Value} {W : World} {R : Ending → World → Prop} (h : Yd P l args W R) (m : Nat) : YieldAt Fence.wide m P l args W R := by
  obtain ⟨fn, tmps, assign, body, hy, h1, h2⟩ := h
  exact ⟨fn, tmps, assign, body, hy, h1, fun c cs _ => h2 c cs (room_wide _)⟩
theorem Yd.inRound {P : Program} {l : Nat} {args : Array Value} {W : World} {R : Ending → World → Prop} (h : Yd P l args W R) (l' m : Nat) : YieldAt (Fence.wide.inRound l') m P l args W R := h.at m
theorem Yd.mono {P : Program} {l : Nat} {args : Array Value} {W : World} {R R' : Ending → World → Prop} (h : Yd P l args W R) (hr : ∀ e w, R e w → R' e w) : Yd P l args W R' := YieldAt.mono h hr
theorem Yd.of {P : Program} {l : Nat} {args : Array Value} {W : World} {R : Ending → World → Prop} {m : Nat} (h : YieldAt Fence.wide m P l args W R) : Yd P l args W R := by
  obtain ⟨fn, tmps, assign, body, hy, h1, h2⟩ := h
  exact ⟨fn, tmps, assign, body, hy, h1, fun c cs _ => h2 c cs (room_wide _)⟩

/-- the consumer's invariant bears the iterator's steps, from block n on -/
def Bears {β : Type} (n : Nat) (J : β → (Nat → Prop) → World → Prop) : Prop :=
  ∀ s C W1 W2, J s C W1 → n ≤ W1.heap.size → Steps (fun k => k < n ∨ C k) W1 W2 → J s C W2
/-- a round: what the consumer may write has grown by new blocks alone; all else lies as it lay -/
def Round (C : Nat → Prop) (W : World) (C' : Nat → Prop) (W' : World) : Prop :=
  Steps (fun k => ¬ C k) W W' ∧ ∀ k, C' k → C k ∨ (W.heap.size ≤ k ∧ k < W'.heap.size)
theorem Round.refl (C : Nat → Prop) (W : World) : Round C W C W := ⟨Steps.refl _ _, fun _ h => .inl h⟩
theorem Round.trans {C C' C'' : Nat → Prop} {A B D : World} (h : Round C A C' B) (k : Round C' B C'' D) : Round C A C'' D := by
  refine ⟨⟨k.1.os.trans h.1.os, k.1.tape.trans h.1.tape, k.1.output.trans h.1.output, Nat.le_trans h.1.size k.1.size, fun x hx hn => ?_⟩, fun x hx => ?_⟩
  · refine (k.1.same x (Nat.lt_of_lt_of_le hx h.1.size) (fun e => ?_)).trans (h.1.same x hx hn)
    rcases h.2 x e with e | e
    · exact hn e
    · omega
  · have a := h.1.size
    have b := k.1.size
    rcases k.2 x hx with e | e
    · rcases h.2 x e with e | e
      · exact .inl e
      · exact .inr ⟨e.1, by omega⟩
    · exact .inr ⟨by omega, e.2⟩
/-- new blocks may be taken in -/
theorem Round.take {C C' : Nat → Prop} {W W' : World} (h : Round C W C' W') : Round C W (fun k => C' k ∨ (W.heap.size ≤ k ∧ k < W'.heap.size)) W' :=
  ⟨h.1, fun k hk => by rcases hk with hk | hk; exact h.2 k hk; exact .inr hk⟩
theorem Round.of_below {w w' : World} (h : Below w.heap.size w w') (C : Nat → Prop) : Round C w C w' := ⟨Steps.of_below h _, fun _ h => .inl h⟩
theorem Round.of_kept {S : List Nat} {w w' : World} {C : Nat → Prop} (h : Kept S w w') (hS : ∀ k ∈ S, C k) : Round C w C w' := ⟨Steps.of_kept h _ (fun k hk q => q (hS k hk)), fun _ h => .inl h⟩

/-- a region in a round whose operations defer nothing is walked as anywhere -/
theorem wpOpIn_round {n : Nat} {P : Program} {ops : Array Oper} {Q : Exit → Act → World → Prop} {l i : Nat} {K : Act → World → Prop} {a : Act} {w : World} (hd : ∀ (i : Nat) (o : Oper), ops[i]? = some o → ∀ c, o.op ≠ .defer c)
    (h : wpOpIn Fence.wide n P ops Q i K a w) : wpOpIn (Fence.wide.inRound l) n P ops Q i K a w := by
  unfold wpOpIn at *
  cases ho : ops[i]? with
  | none => rw [ho] at h; exact h
  | some o =>
    rw [ho] at h
    simp only at h ⊢
    split
    · rename_i hw
      rw [if_pos hw] at h
      unfold Oper.wpIn at *
      refine ⟨h.1, ?_⟩
      have h2 := h.2
      rw [show Fence.wide.round = none from rfl, Oper.semAt_none] at h2
      rw [Oper.semAt_eq _ _ _ (hd i o ho)]
      exact h2
    · rename_i hw
      rw [if_neg hw] at h
      exact h
theorem wpAnyIn_round {n : Nat} {P : Program} {ops : Array Oper} {Q : Exit → Act → World → Prop} {md : Region.Mode} {l : Nat} (hd : ∀ (i : Nat) (o : Oper), ops[i]? = some o → ∀ c, o.op ≠ .defer c) :
    ∀ {fuel : Nat} {listed : Array Bool} {a : Act} {w : World}, wpAnyIn Fence.wide n P md ops Q fuel listed a w → wpAnyIn (Fence.wide.inRound l) n P md ops Q fuel listed a w := by
  intro fuel
  induction fuel with
  | zero => intro listed a w h; exact h
  | succ fuel ih => intro listed a w h; exact ⟨h.1, fun i hi => wpOpIn_mono (fun a w h => ih h) (wpOpIn_round hd (h.2 i hi))⟩
def noDefer (ops : Array Oper) : Bool := ops.all (fun o => match o.op with | .defer _ => false | _ => true)
theorem noDefer_spec {ops : Array Oper} (h : noDefer ops = true) : ∀ (i : Nat) (o : Oper), ops[i]? = some o → ∀ c, o.op ≠ .defer c := by
  intro i o ho c hc
  unfold noDefer at h
  rw [Array.all_eq_true] at h
  obtain ⟨hlt, he⟩ := Array.getElem?_eq_some_iff.1 ho
  have := h i hlt
  rw [he, hc] at this
  simp at this
theorem wpIn_region_round {P : Program} {n l id : Nat} {ops : Array Oper} {Q : Exit → Act → World → Prop} {a : Act} {w : World} (hm : P.follows .mixedOrders = true) (hd : noDefer ops = true)
    (h : wpAnyIn Fence.wide n P .any ops Q ops.size (Array.replicate ops.size false) a w.drew) : (Code.region id ops true).wpIn (Fence.wide.inRound l) n P Q a w :=
  wpIn_region_any hm (wpAnyIn_round (noDefer_spec hd) h)

/-- the end of a round, in one piece -/
theorem one_way {C : Nat → Prop} {W W' : World} {e : Ending} {X Y : (Nat → Prop) → Prop} (h : ∃ C', Round C W C' W' ∧ ((e = .returned (.bool true) ∧ X C') ∨ (e = .returned (.bool false) ∧ Y C'))) :
    ∃ b, e = .returned (.bool b) ∧ ∃ C', Round C W C' W' ∧ ((b = true ∧ X C') ∨ (b = false ∧ Y C')) := by
  obtain ⟨C', hr, ⟨rfl, h⟩ | ⟨rfl, h⟩⟩ := h
  · exact ⟨true, rfl, C', hr, .inl ⟨rfl, h⟩⟩
  · exact ⟨false, rfl, C', hr, .inr ⟨rfl, h⟩⟩
/-- the contract of an iterator that tells the list L; A: what of the old blocks the consumer may write -/
def SeqOf {α : Type} (P : Program) (g : Nat) (lb : Array Value) (encs : α → Array Value) (L : List α) (A : Nat → Prop) (w : World) : Prop :=
  ∀ (l : Nat) (J Jx : List α → (Nat → Prop) → World → Prop) (C0 : Nat → Prop) (W : World),
    Below w.heap.size w W → (∀ k, C0 k → (A k ∨ w.heap.size ≤ k) ∧ k < W.heap.size) → Bears W.heap.size J → Bears W.heap.size Jx →
    (∀ pre x C W1, J pre C W1 → W.heap.size ≤ W1.heap.size → pre ++ [x] <+: L → Yd P l (encs x) W1 fun e W' =>
      ∃ C', Round C W1 C' W' ∧ ((e = .returned (.bool true) ∧ J (pre ++ [x]) C' W') ∨ (e = .returned (.bool false) ∧ Jx (pre ++ [x]) C' W'))) →
    J [] C0 W →
    Calls P g (#[.func (.yield l) #[] #[]] ++ lb) W fun e W' => (∃ v, e = .returned v) ∧ ∃ C', J L C' W' ∨ ∃ pre, Jx pre C' W'
theorem SeqOf.later {α : Type} {P : Program} {g : Nat} {lb : Array Value} {encs : α → Array Value} {L : List α} {A : Nat → Prop} {w w' : World} (h : SeqOf P g lb encs L A w) (hb : Below w.heap.size w w') {A' : Nat → Prop} (hA : ∀ k, A' k → A k ∨ w.heap.size ≤ k) : SeqOf P g lb encs L A' w' :=
  fun l J Jx C0 W hW hC hJ hJx hY h0 => h l J Jx C0 W (hb.trans (hW.mono hb.size)) (fun k hk => by
    have := hb.size
    obtain ⟨a, b⟩ := hC k hk
    refine ⟨?_, b⟩
    rcases a with a | a
    · exact hA k a
    · exact .inr (by omega)) hJ hJx hY h0

/-- what an iterator knows while it runs: W: the world when it was called -/
structure It (C0 : Nat → Prop) (W : World) (C : Nat → Prop) (W1 : World) : Prop where
  grow : ∀ k, C k → (C0 k ∨ W.heap.size ≤ k) ∧ k < W1.heap.size
  kept : Steps (fun k => ¬ C0 k) W W1
theorem It.refl {C0 : Nat → Prop} {W : World} (h : ∀ k, C0 k → k < W.heap.size) : It C0 W C0 W := ⟨fun k hk => ⟨.inl hk, h k hk⟩, Steps.refl _ _⟩
theorem It.round {C0 C C' : Nat → Prop} {W W1 W' : World} (h : It C0 W C W1) (hr : Round C W1 C' W') : It C0 W C' W' := by
  have s := h.kept.size
  refine ⟨fun k hk => ?_, ⟨hr.1.os.trans h.kept.os, hr.1.tape.trans h.kept.tape, hr.1.output.trans h.kept.output, Nat.le_trans s hr.1.size, fun k hk hn => ?_⟩⟩
  · rcases hr.2 k hk with a | a
    · exact ⟨(h.grow k a).1, Nat.lt_of_lt_of_le (h.grow k a).2 hr.1.size⟩
    · exact ⟨.inr (by omega), a.2⟩
  · refine (hr.1.same k (Nat.lt_of_lt_of_le hk s) (fun e => ?_)).trans (h.kept.same k hk hn)
    rcases (h.grow k e).1 with a | a
    · exact hn a
    · omega
theorem It.own {C0 C : Nat → Prop} {W W1 W2 : World} (h : It C0 W C W1) (hs : Steps (fun k => k < W.heap.size ∨ C k) W1 W2) : It C0 W C W2 :=
  ⟨fun k hk => ⟨(h.grow k hk).1, Nat.lt_of_lt_of_le (h.grow k hk).2 hs.size⟩, ⟨hs.os.trans h.kept.os, hs.tape.trans h.kept.tape, hs.output.trans h.kept.output, Nat.le_trans h.kept.size hs.size, fun k hk hn =>
    (hs.same k (Nat.lt_of_lt_of_le hk h.kept.size) (.inl hk)).trans (h.kept.same k hk hn)⟩⟩

theorem It.block {C0 C : Nat → Prop} {W W1 : World} (h : It C0 W C W1) {b : Nat} {o : Obj} (hb : W.heap[b]? = some o) (hn : ¬ C0 b) : W1.heap[b]? = some o := h.kept.heap hn hb

/-- how the body of a round may be left -/
def rPost {α : Type} (I : List α → (Nat → Prop) → World → Prop) (Ix : Code → List α → (Nat → Prop) → World → Prop) (xs : List α) (C : Nat → Prop) (W : World) : Exit → Act → World → Prop
  | .normal, _, W' => ∃ C', Round C W C' W' ∧ I xs C' W'
  | .ret, _, W' => ∃ C', Round C W C' W' ∧ Ix .ret xs C' W'
  | .exit id, _, W' => ∃ C', Round C W C' W' ∧ Ix (.exit id) xs C' W'
  | .goto t, _, W' => ∃ C', Round C W C' W' ∧ Ix (.goto t) xs C' W'
  | .panic _, _, _ => False
  | .outgrown, _, _ => False

/-- **a range over a function**, in a function's body (not within a round) -/
theorem wpIn_range {P : Program} {n : Nat} {α : Type} {g : Operand} {ps : Array Tmp} {assign body : Code} {Q : Exit → Act → World → Prop} {a : Act} {w : World}
    {gf : Nat} {lb : Array Value} (hg : a.eval g = .func (.func gf) #[] lb) (eg : ∀ args w, (callFunc gf args).run P w = .ok (.enter gf args) w)
    {encs : α → Array Value} {L : List α} {A : Nat → Prop} {w0 : World} (hseq : SeqOf P gf lb encs L A w0) (hb0 : Below w0.heap.size w0 w) (hps : ∀ x, (encs x).size = ps.size)
    (I : List α → (Nat → Prop) → World → Prop) (Ix : Code → List α → (Nat → Prop) → World → Prop) (C0 : Nat → Prop) (hC0 : ∀ k, C0 k → (A k ∨ w0.heap.size ≤ k) ∧ k < w.heap.size)
    (hI : Bears w.heap.size I) (hIx : ∀ c, Bears w.heap.size (Ix c)) (h0 : I [] C0 w) (Ax : α → Act → (Nat → Prop) → World → Prop) (hAx : ∀ x a', Bears w.heap.size (fun (_ : Unit) C W => Ax x a' C W))
    (hassign : ∀ (l : Nat) (pre : List α) (x : α) (C : Nat → Prop) (W : World) (K : Act → World → Prop), I pre C W → pre ++ [x] <+: L → (∀ k, C k → k < W.heap.size) → w.heap.size ≤ W.heap.size →
      (∀ a' C' W', Round C W C' W' → I pre C' W' → Ax x a' C' W' → K a' W') →
      assign.wpIn (Fence.wide.inRound l) (n - 1 - 1) P (Exit.then K (fun _ _ _ => False)) { tmps := (ps.zip (encs x)).foldl (fun t (p, v) => t.setIfInBounds p v) a.tmps, defers := [] } W)
    (hbody : ∀ (l : Nat) (pre : List α) (x : α) (a' : Act) (C : Nat → Prop) (W : World), I pre C W → Ax x a' C W → pre ++ [x] <+: L → (∀ k, C k → k < W.heap.size) → w.heap.size ≤ W.heap.size →
      body.wpIn (Fence.wide.inRound l) (n - 1 - 1) P (rPost I Ix (pre ++ [x]) C W) a' W)
    (hdone : ∀ (D : Nat) (C : Nat → Prop) (W : World), w.heap.size ≤ D → ¬ C D → I L C W → W.heap[D]? = some (.deferred (some [])) → Q .normal { a with defers := { target := .collected D, args := #[] } :: a.defers } W)
    (hstop : ∀ (D : Nat) (c : Code) (pre : List α) (C : Nat → Prop) (W : World), w.heap.size ≤ D → ¬ C D → Ix c pre C W → W.heap[D]? = some (.deferred (some [])) → c.wpIn Fence.wide n P Q { a with defers := { target := .collected D, args := #[] } :: a.defers } W) :
    (Code.rangeFunc g ps assign body).wpIn Fence.wide n P Q a w := by
  refine wpIn_rangeFunc ?_
  intro fn hfn
  obtain ⟨rec, hrec⟩ : ∃ rec : LoopState → Option Code → Loop, rec = fun st pe => { state := st, pending := pe, fn, tmps := a.tmps, params := ps, assign, body, defers := w.heap.size } := ⟨_, rfl⟩
  obtain ⟨W1, hW1⟩ : ∃ W1, (w.alloc (.deferred (some []))).alloc (.loop (rec .ready none)) = W1 := ⟨_, rfl⟩
  have hL1 : W1.heap[w.heap.size + 1]? = some (.loop (rec .ready none)) := by
    rw [← hW1]; have := World.alloc_heap_new (w.alloc (.deferred (some []))) (.loop (rec .ready none)); rwa [World.size_alloc] at this
  have hK1 : W1.heap[w.heap.size]? = some (.deferred (some [])) := by
    rw [← hW1]; exact (Below.heap_alloc _ _ _ (by simp)).trans (World.alloc_heap_new w _)
  have hz : W1.heap.size = w.heap.size + 1 + 1 := by rw [← hW1]; simp
  have bw1 : Below w.heap.size w W1 := by rw [← hW1]; exact ((Below.refl _ w).alloc (Nat.le_refl _) _).alloc (by simp) _
  have hI1 : I [] C0 W1 := hI _ _ _ _ h0 (Nat.le_refl _) (Steps.of_below bw1 _)
  refine ⟨w.heap.size + 1, [{ target := .collected w.heap.size, args := #[] }], W1, { target := .fn (.func gf) lb, args := #[.func (.yield (w.heap.size + 1)) #[] #[]] }, W1, gf,
    #[.func (.yield (w.heap.size + 1)) #[] #[]] ++ lb, W1, ?_, ?_, ?_, ?_, (fun h => by simp [Fence.wide] at h), ?_⟩
  · rw [← hW1, hrec]; exact run_enterLoop_outer _ _ _ _ _
  · simp only [resolve, hg]
    simp [go_sem]
  · intro f' hf'; trivial
  · simp [invoke, go_sem, eg]
  · refine callsIn_wide.2 ?_
    -- the two blocks of book-keeping are the consumer's, beside the user's own
    let Cj : (Nat → Prop) → Nat → Prop := fun C k => C k ∨ k = w.heap.size ∨ k = w.heap.size + 1
    let J : List α → (Nat → Prop) → World → Prop := fun pre C' W => ∃ C, C' = Cj C ∧ I pre C W ∧ (¬ C w.heap.size ∧ ¬ C (w.heap.size + 1) ∧ ∀ k, C k → k < W.heap.size) ∧ W.heap[w.heap.size + 1]? = some (.loop (rec .ready none)) ∧ W.heap[w.heap.size]? = some (.deferred (some []))
    let Jx : List α → (Nat → Prop) → World → Prop := fun pre C' W => ∃ C c, C' = Cj C ∧ Ix c pre C W ∧ (¬ C w.heap.size ∧ ¬ C (w.heap.size + 1) ∧ ∀ k, C k → k < W.heap.size) ∧ W.heap[w.heap.size + 1]? = some (.loop (rec .done (some c))) ∧ W.heap[w.heap.size]? = some (.deferred (some []))
    have hsm : ∀ {C : Nat → Prop} {X Y : World}, Steps (fun k => k < W1.heap.size ∨ Cj C k) X Y → Steps (fun k => k < w.heap.size ∨ C k) X Y := fun h => h.mono (fun k _ hk => by
      rcases hk with hk | hk
      · exact .inl (by omega)
      · exact .inr (.inl hk))
    refine (hseq (w.heap.size + 1) J Jx (Cj C0) W1 (hb0.trans (bw1.mono hb0.size)) ?_ ?_ ?_ ?_ ?_).mono ?_
    · intro k hk
      have h1 := hb0.size
      rcases hk with hk | hk | hk
      · exact ⟨(hC0 k hk).1, by have := (hC0 k hk).2; omega⟩
      · exact ⟨.inr (by omega), by omega⟩
      · exact ⟨.inr (by omega), by omega⟩
    · rintro s C' X Y ⟨C, rfl, hi, ⟨h1, h2, h3⟩, hl, hk⟩ hn hs
      exact ⟨C, rfl, hI _ _ _ _ hi (by omega) (hsm hs), ⟨h1, h2, fun k hk => Nat.lt_of_lt_of_le (h3 k hk) hs.size⟩, hs.heap (.inr (.inr (.inr rfl))) hl, hs.heap (.inr (.inr (.inl rfl))) hk⟩
    · rintro s C' X Y ⟨C, c, rfl, hi, ⟨h1, h2, h3⟩, hl, hk⟩ hn hs
      exact ⟨C, c, rfl, hIx c _ _ _ _ hi (by omega) (hsm hs), ⟨h1, h2, fun k hk => Nat.lt_of_lt_of_le (h3 k hk) hs.size⟩, hs.heap (.inr (.inr (.inr rfl))) hl, hs.heap (.inr (.inr (.inl rfl))) hk⟩
    · -- one round
      rintro pre x C' W ⟨C, rfl, hi, ⟨h1, h2, h3⟩, hl, hk⟩ hWs hpre
      have hlt : w.heap.size + 1 < W.heap.size := (Array.getElem?_eq_some_iff.1 hl).1
      have hy := run_yield (P := P) (args := encs x) hl (by rw [hrec]; exact hps x)
      rw [hrec] at hy
      refine Yd.of (m := n - 1 - 1) ⟨fn, _, assign, body, hy, roundIn_of_wpIn hfn (hassign _ pre x C W _ hi hpre h3 (by omega) ?_)⟩
      clear hy
      intro a' Ca Wa hra hia hax
      have h1a : ¬ Ca w.heap.size := fun e => by rcases hra.2 _ e with e | e; exact h1 e; omega
      have h2a : ¬ Ca (w.heap.size + 1) := fun e => by rcases hra.2 _ e with e | e; exact h2 e; omega
      have h3a : ∀ k, Ca k → k < Wa.heap.size := fun k hk => by rcases hra.2 k hk with e | e; exact Nat.lt_of_lt_of_le (h3 k e) hra.1.size; exact e.2
      have hla := hra.1.heap h2 hl
      have hka := hra.1.heap h1 hk
      have hlta : w.heap.size + 1 < Wa.heap.size := (Array.getElem?_eq_some_iff.1 hla).1
      refine ⟨_, run_beginRound hla (by rw [hrec]), ?_⟩
      obtain ⟨Wb, hWb⟩ : ∃ Wb, Wb = Wa.putObj (w.heap.size + 1) (.loop { rec .ready none with state := .busy }) := ⟨_, rfl⟩
      rw [← hWb]
      have hlb : Wb.heap[w.heap.size + 1]? = some (.loop { rec .ready none with state := .busy }) := by rw [hWb]; exact World.putObj_heap_same hlta
      have hkb : Wb.heap[w.heap.size]? = some (.deferred (some [])) := by rw [hWb]; exact (World.putObj_heap_other (by omega)).trans hka
      have sb : Steps (fun k => k < w.heap.size ∨ Ca k) Wa Wb := by rw [hWb]; exact Steps.putObj _ _ _ _ (by rintro (e | e); omega; exact h2a e)
      have rb : Round (Cj Ca) Wa (Cj Ca) Wb := ⟨by rw [hWb]; exact Steps.putObj _ _ _ _ (fun e => e (.inr (.inr rfl))), fun k hk => .inl hk⟩
      have hib := hI _ _ _ _ hia (by omega) sb
      have haxb := hAx x a' () _ _ _ hax (by omega) sb
      have hzb : Wb.heap.size = Wa.heap.size := by rw [hWb]; simp
      have ra : Round (Cj C) W (Cj Ca) Wa := ⟨hra.1.mono (fun k _ hk e => hk (.inl e)), fun k hk => by
        rcases hk with hk | hk
        · rcases hra.2 k hk with e | e; exact .inl (.inl e); exact .inr e
        · exact .inl (.inr hk)⟩
      have rab := ra.trans rb
      refine wpIn_mono (hbody _ pre x a' Ca Wb hib haxb hpre (fun k hk => by rw [hzb]; exact h3a k hk) (by omega)) ?_
      have fin : ∀ (jump : Option Code) (C3 : Nat → Prop) (W3 : World), Round Ca Wb C3 W3 →
          (Instr.endRound (w.heap.size + 1) jump).run P W3 = .ok (.bool jump.isNone) (W3.putObj (w.heap.size + 1) (.loop (rec (if jump.isNone then .ready else .done) jump))) ∧
          (W3.putObj (w.heap.size + 1) (.loop (rec (if jump.isNone then .ready else .done) jump))).heap[w.heap.size + 1]? = some (.loop (rec (if jump.isNone then .ready else .done) jump)) ∧
          (W3.putObj (w.heap.size + 1) (.loop (rec (if jump.isNone then .ready else .done) jump))).heap[w.heap.size]? = some (.deferred (some [])) ∧
          Steps (fun k => k < w.heap.size ∨ C3 k) W3 (W3.putObj (w.heap.size + 1) (.loop (rec (if jump.isNone then .ready else .done) jump))) ∧
          Round (Cj C) W (Cj C3) (W3.putObj (w.heap.size + 1) (.loop (rec (if jump.isNone then .ready else .done) jump))) ∧
          (¬ C3 w.heap.size ∧ ¬ C3 (w.heap.size + 1) ∧ ∀ k, C3 k → k < W3.heap.size) ∧ w.heap.size ≤ W3.heap.size := fun jump C3 W3 hr3 => by
        have h13 : ¬ C3 w.heap.size := fun e => by rcases hr3.2 _ e with e | e; exact h1a e; omega
        have h23 : ¬ C3 (w.heap.size + 1) := fun e => by rcases hr3.2 _ e with e | e; exact h2a e; omega
        have hl3 := hr3.1.heap h2a hlb
        have hk3 := hr3.1.heap h1a hkb
        have := run_endRound (P := P) jump hl3
        have hlt3 := (Array.getElem?_eq_some_iff.1 hl3).1
        rw [hrec] at this ⊢
        refine ⟨this, World.putObj_heap_same hlt3, (World.putObj_heap_other (by omega)).trans hk3, Steps.putObj _ _ _ _ (by rintro (e | e); omega; exact h23 e), ?_, ⟨h13, h23, fun k hk => by rcases hr3.2 k hk with e | e; exact Nat.lt_of_lt_of_le (by rw [hzb]; exact h3a k e) hr3.1.size; exact e.2⟩, by omega⟩
        refine (rab.trans (C'' := Cj C3) (D := W3) ⟨hr3.1.mono (fun k _ hk e => hk (.inl e)), fun k hk => ?_⟩).trans ⟨Steps.putObj _ _ _ _ (fun e => e (.inr (.inr rfl))), fun k hk => .inl hk⟩
        rcases hk with hk | hk
        · rcases hr3.2 k hk with e | e; exact .inl (.inl e); exact .inr e
        · exact .inl (.inr hk)
      rintro e a3 W3 hp
      cases e with
      | normal =>
        obtain ⟨C3, hr3, hi3⟩ := hp
        obtain ⟨hr, hl4, hk4, s4, r4, ⟨b1, b2, b3⟩, b4⟩ := fin none C3 W3 hr3
        exact ⟨_, _, hr, Cj C3, r4, .inl ⟨rfl, C3, rfl, hI _ _ _ _ hi3 b4 s4, ⟨b1, b2, fun k hk => by simpa using b3 k hk⟩, hl4, hk4⟩⟩
      | ret =>
        obtain ⟨C3, hr3, hi3⟩ := hp
        obtain ⟨hr, hl4, hk4, s4, r4, ⟨b1, b2, b3⟩, b4⟩ := fin (some .ret) C3 W3 hr3
        exact ⟨_, _, hr, Cj C3, r4, .inr ⟨rfl, C3, .ret, rfl, hIx _ _ _ _ _ hi3 b4 s4, ⟨b1, b2, fun k hk => by simpa using b3 k hk⟩, hl4, hk4⟩⟩
      | exit id =>
        obtain ⟨C3, hr3, hi3⟩ := hp
        obtain ⟨hr, hl4, hk4, s4, r4, ⟨b1, b2, b3⟩, b4⟩ := fin (some (.exit id)) C3 W3 hr3
        exact ⟨_, _, hr, Cj C3, r4, .inr ⟨rfl, C3, .exit id, rfl, hIx _ _ _ _ _ hi3 b4 s4, ⟨b1, b2, fun k hk => by simpa using b3 k hk⟩, hl4, hk4⟩⟩
      | goto t =>
        obtain ⟨C3, hr3, hi3⟩ := hp
        obtain ⟨hr, hl4, hk4, s4, r4, ⟨b1, b2, b3⟩, b4⟩ := fin (some (.goto t)) C3 W3 hr3
        exact ⟨_, _, hr, Cj C3, r4, .inr ⟨rfl, C3, .goto t, rfl, hIx _ _ _ _ _ hi3 b4 s4, ⟨b1, b2, fun k hk => by simpa using b3 k hk⟩, hl4, hk4⟩⟩
      | panic ch => exact hp.elim
      | outgrown => exact hp.elim
    · exact ⟨C0, rfl, hI1, ⟨fun e => by have := (hC0 _ e).2; omega, fun e => by have := (hC0 _ e).2; omega, fun k hk => by have := (hC0 _ hk).2; omega⟩, hL1, hK1⟩
    · -- behind the iterator
      rintro e W2 ⟨⟨v, rfl⟩, _, (⟨C, rfl, hi, ⟨h1, h2, h3⟩, hl, hk⟩ | ⟨pre, C, c, rfl, hi, ⟨h1, h2, h3⟩, hl, hk⟩)⟩
      · have hlt := (Array.getElem?_eq_some_iff.1 hl).1
        have sp : ∀ o, Steps (fun k => k < w.heap.size ∨ C k) W2 (W2.putObj (w.heap.size + 1) o) := fun o => Steps.putObj _ _ _ _ (by rintro (e | e); omega; exact h2 e)
        exact ⟨none, _, by have := run_endLoop (P := P) hl (by rw [hrec]; simp); rw [hrec] at this; exact this, hdone _ C _ (Nat.le_refl _) h1 (hI _ _ _ _ hi (by omega) (sp _)) ((World.putObj_heap_other (by omega)).trans hk)⟩
      · have hlt := (Array.getElem?_eq_some_iff.1 hl).1
        have sp : ∀ o, Steps (fun k => k < w.heap.size ∨ C k) W2 (W2.putObj (w.heap.size + 1) o) := fun o => Steps.putObj _ _ _ _ (by rintro (e | e); omega; exact h2 e)
        exact ⟨some c, _, by have := run_endLoop (P := P) hl (by rw [hrec]; simp); rw [hrec] at this; exact this, hstop _ c pre C _ (Nat.le_refl _) h1 (hIx _ _ _ _ _ hi (by omega) (sp _)) ((World.putObj_heap_other (by omega)).trans hk)⟩

/-- the same, where the assignment to the loop's variables makes no memory -/
theorem wpIn_range' {P : Program} {n : Nat} {α : Type} {g : Operand} {ps : Array Tmp} {assign body : Code} {Q : Exit → Act → World → Prop} {a : Act} {w : World}
    {gf : Nat} {lb : Array Value} (hg : a.eval g = .func (.func gf) #[] lb) (eg : ∀ args w, (callFunc gf args).run P w = .ok (.enter gf args) w)
    {encs : α → Array Value} {L : List α} {A : Nat → Prop} {w0 : World} (hseq : SeqOf P gf lb encs L A w0) (hb0 : Below w0.heap.size w0 w) (hps : ∀ x, (encs x).size = ps.size)
    (I : List α → (Nat → Prop) → World → Prop) (Ix : Code → List α → (Nat → Prop) → World → Prop) (C0 : Nat → Prop) (hC0 : ∀ k, C0 k → (A k ∨ w0.heap.size ≤ k) ∧ k < w.heap.size)
    (hI : Bears w.heap.size I) (hIx : ∀ c, Bears w.heap.size (Ix c)) (h0 : I [] C0 w) (a₁ : α → Act)
    (hassign : ∀ (l : Nat) (x : α) (W : World) (K : Act → World → Prop), K (a₁ x) W →
      assign.wpIn (Fence.wide.inRound l) (n - 1 - 1) P (Exit.then K (fun _ _ _ => False)) { tmps := (ps.zip (encs x)).foldl (fun t (p, v) => t.setIfInBounds p v) a.tmps, defers := [] } W)
    (hbody : ∀ (l : Nat) (pre : List α) (x : α) (C : Nat → Prop) (W : World), I pre C W → pre ++ [x] <+: L → (∀ k, C k → k < W.heap.size) → w.heap.size ≤ W.heap.size →
      body.wpIn (Fence.wide.inRound l) (n - 1 - 1) P (rPost I Ix (pre ++ [x]) C W) (a₁ x) W)
    (hdone : ∀ (D : Nat) (C : Nat → Prop) (W : World), w.heap.size ≤ D → ¬ C D → I L C W → W.heap[D]? = some (.deferred (some [])) → Q .normal { a with defers := { target := .collected D, args := #[] } :: a.defers } W)
    (hstop : ∀ (D : Nat) (c : Code) (pre : List α) (C : Nat → Prop) (W : World), w.heap.size ≤ D → ¬ C D → Ix c pre C W → W.heap[D]? = some (.deferred (some [])) → c.wpIn Fence.wide n P Q { a with defers := { target := .collected D, args := #[] } :: a.defers } W) :
    (Code.rangeFunc g ps assign body).wpIn Fence.wide n P Q a w :=
  wpIn_range hg eg hseq hb0 hps I Ix C0 hC0 hI hIx h0 (fun x a' _ _ => a' = a₁ x) (fun _ _ _ _ _ _ h _ _ => h)
    (fun l pre x C W K hi _ _ _ hK => hassign l x W K (hK _ C W (Round.refl C W) hi rfl))
    (fun l pre x a' C W hi ha hp hc hz => by subst ha; exact hbody l pre x C W hi hp hc hz) hdone hstop
/-- the same, the frame of a round told by what is laid into the frame at hand -/
theorem wpIn_rangeF {P : Program} {n : Nat} {α : Type} {g : Operand} {ps : Array Tmp} {assign body : Code} {Q : Exit → Act → World → Prop} {a : Act} {w : World} (f : α → Array Value → Array Value)
    {gf : Nat} {lb : Array Value} (hg : a.eval g = .func (.func gf) #[] lb) (eg : ∀ args w, (callFunc gf args).run P w = .ok (.enter gf args) w)
    {encs : α → Array Value} {L : List α} {A : Nat → Prop} {w0 : World} (hseq : SeqOf P gf lb encs L A w0) (hb0 : Below w0.heap.size w0 w) (hps : ∀ x, (encs x).size = ps.size)
    (I : List α → (Nat → Prop) → World → Prop) (Ix : Code → List α → (Nat → Prop) → World → Prop) (C0 : Nat → Prop) (hC0 : ∀ k, C0 k → (A k ∨ w0.heap.size ≤ k) ∧ k < w.heap.size)
    (hI : Bears w.heap.size I) (hIx : ∀ c, Bears w.heap.size (Ix c)) (h0 : I [] C0 w)
    (hassign : ∀ (l : Nat) (x : α) (W : World) (K : Act → World → Prop), K { tmps := f x a.tmps, defers := [] } W →
      assign.wpIn (Fence.wide.inRound l) (n - 1 - 1) P (Exit.then K (fun _ _ _ => False)) { tmps := (ps.zip (encs x)).foldl (fun t (p, v) => t.setIfInBounds p v) a.tmps, defers := [] } W)
    (hbody : ∀ (l : Nat) (pre : List α) (x : α) (C : Nat → Prop) (W : World), I pre C W → pre ++ [x] <+: L → (∀ k, C k → k < W.heap.size) → w.heap.size ≤ W.heap.size →
      body.wpIn (Fence.wide.inRound l) (n - 1 - 1) P (rPost I Ix (pre ++ [x]) C W) { tmps := f x a.tmps, defers := [] } W)
    (hdone : ∀ (D : Nat) (C : Nat → Prop) (W : World), w.heap.size ≤ D → ¬ C D → I L C W → W.heap[D]? = some (.deferred (some [])) → Q .normal { a with defers := { target := .collected D, args := #[] } :: a.defers } W)
    (hstop : ∀ (D : Nat) (c : Code) (pre : List α) (C : Nat → Prop) (W : World), w.heap.size ≤ D → ¬ C D → Ix c pre C W → W.heap[D]? = some (.deferred (some [])) → c.wpIn Fence.wide n P Q { a with defers := { target := .collected D, args := #[] } :: a.defers } W) :
    (Code.rangeFunc g ps assign body).wpIn Fence.wide n P Q a w :=
  wpIn_range' hg eg hseq hb0 hps I Ix C0 hC0 hI hIx h0 (fun x => { tmps := f x a.tmps, defers := [] }) hassign hbody hdone hstop
#print axioms wpIn_rangeF
end Go.Proofs.YtohpaoleomcimaaGreat.rng
/-!   Records, and lines of nodes, as lists. Imports nothing of the program.
-/
namespace Go.Proofs.YtohpaoleomcimaaGreat.bk
open Go.RowKit aid mem
set_option linter.unusedVariables false

structure Rc where
  f : Int
  t : Int
  sent : Int
  order : Int
  times : Int
  out : Int
  lost : Bool
deriving DecidableEq
instance : Inhabited Rc := ⟨⟨0, 0, 0, 0, 0, 0, false⟩⟩
def Rc.zero : Rc := ⟨0, 0, 0, 0, 0, 0, false⟩
/-- a node: its block, its record -/
abbrev Nd := Nat × Rc
def hd (z : Option Nat) : List Nd → Option Nat
  | [] => z
  | x :: _ => some x.1
def la (a : Option Nat) : List Nd → Option Nat
  | [] => a
  | x :: l => la (some x.1) l
theorem la_append (a : Option Nat) (l r : List Nd) : la a (l ++ r) = la (la a l) r := by
  induction l generalizing a with
  | nil => rfl
  | cons x l ih => exact ih _
theorem hd_append (z : Option Nat) (l r : List Nd) : hd z (l ++ r) = hd (hd z r) l := by
  cases l <;> rfl
theorem la_none {l : List Nd} : la none l = none ↔ l = [] := by
  suffices H : ∀ (l : List Nd) (a : Option Nat), (∃ x, a = some x) → ∃ x, la a l = some x by
    cases l with
    | nil => simp [la]
    | cons x l =>
      obtain ⟨y, hy⟩ := H l (some x.1) ⟨_, rfl⟩
      simp [la, hy]
  intro l
  induction l with
  | nil => exact fun a h => h
  | cons x l ih => exact fun a _ => ih _ ⟨_, rfl⟩
theorem hd_none {l : List Nd} : hd none l = none ↔ l = [] := by cases l <;> simp [hd]
theorem la_mem {l : List Nd} {b : Nat} (h : la none l = some b) : ∃ l' r, l = l' ++ [(b, r)] := by
  rcases List.eq_nil_or_concat l with rfl | ⟨l', x, rfl⟩
  · cases h
  · rw [List.concat_eq_append, la_append] at h
    simp [la] at h
    exact ⟨l', x.2, by rw [List.concat_eq_append, ← h]⟩
/-- what a node's record is once it is sent again -/
def Rc.goes (r : Rc) (now order : Int) : Rc := ⟨r.f, r.t, now, order, r.times + 1, r.out + 1, false⟩
def Rc.lose (r : Rc) : Rc := ⟨r.f, r.t, r.sent, r.order, r.times, 0, true⟩
end Go.Proofs.YtohpaoleomcimaaGreat.bk
/-!   Balanced trees as data: putting, deleting, order, balance, heights. Imports nothing of the program.
-/
namespace Go.Proofs.YtohpaoleomcimaaGreat.cv
set_option linter.unusedVariables false

abbrev Vt := Option Addr
inductive T where
  | nil : T
  | node (l : T) (k : Int) (v : Vt) (r : T) : T
deriving DecidableEq

namespace T
def size : T → Nat
  | nil => 0
  | node l _ _ r => l.size + 1 + r.size
def ht : T → Nat
  | nil => 0
  | node l _ _ r => 1 + max l.ht r.ht
def toL : T → List (Int × Vt)
  | nil => []
  | node l k v r => l.toL ++ (k, v) :: r.toL
def raiseL (l : T) (k : Int) (v : Vt) (r : T) : T :=
  match l with
  | nil => nil
  | node ll lk lv lr =>
    if lr.ht > ll.ht then
      match lr with
      | nil => nil
      | node a mk mv b => node (node ll lk lv a) mk mv (node b k v r)
    else node ll lk lv (node lr k v r)
def raiseR (l : T) (k : Int) (v : Vt) (r : T) : T :=
  match r with
  | nil => nil
  | node rl rk rv rr =>
    if rl.ht > rr.ht then
      match rl with
      | nil => nil
      | node a mk mv b => node (node l k v a) mk mv (node b rk rv rr)
    else node (node l k v rl) rk rv rr
def bal (l : T) (k : Int) (v : Vt) (r : T) : T :=
  if l.ht > r.ht + 1 then raiseL l k v r else if r.ht > l.ht + 1 then raiseR l k v r else node l k v r
def ins (k : Int) (v : Vt) : T → T
  | nil => node nil k v nil
  | node l k' v' r => if k < k' then bal (ins k v l) k' v' r else if k' < k then bal l k' v' (ins k v r) else node l k v r
def first : T → Int × Vt
  | nil => (0, none)
  | node nil k v _ => (k, v)
  | node l _ _ _ => l.first
def del (k : Int) : T → T
  | nil => nil
  | node l k' v' r => if k < k' then bal (del k l) k' v' r else if k' < k then bal l k' v' (del k r) else
      if r = nil then l else bal l r.first.1 r.first.2 (del r.first.1 r)

theorem size_toL (t : T) : t.toL.length = t.size := by
  induction t with
  | nil => rfl
  | node l k v r ihl ihr => simp [toL, size, ihl, ihr]; omega
theorem ht_le (t : T) : t.ht ≤ t.size := by
  induction t with
  | nil => exact Nat.le_refl _
  | node l k v r ihl ihr => simp only [ht, size]; omega
theorem size_zero {t : T} : t.size = 0 ↔ t = nil := by cases t <;> simp [size]
theorem ht_zero {t : T} : t.ht = 0 ↔ t = nil := by
  cases t with
  | nil => simp [ht]
  | node => simp [ht]

theorem raiseL_toL (l : T) (k : Int) (v : Vt) (r : T) (h : l ≠ nil) : (raiseL l k v r).toL = l.toL ++ (k, v) :: r.toL := by
  cases l with
  | nil => exact absurd rfl h
  | node ll lk lv lr =>
    unfold raiseL
    by_cases hh : lr.ht > ll.ht
    · simp only [if_pos hh]
      cases lr with
      | nil => simp [ht] at hh
      | node a mk mv b => simp [toL]
    · simp [if_neg hh, toL]
theorem raiseR_toL (l : T) (k : Int) (v : Vt) (r : T) (h : r ≠ nil) : (raiseR l k v r).toL = l.toL ++ (k, v) :: r.toL := by
  cases r with
  | nil => exact absurd rfl h
  | node rl rk rv rr =>
    unfold raiseR
    by_cases hh : rl.ht > rr.ht
    · simp only [if_pos hh]
      cases rl with
      | nil => simp [ht] at hh
      | node a mk mv b => simp [toL]
    · simp [if_neg hh, toL]
theorem bal_toL (l : T) (k : Int) (v : Vt) (r : T) : (bal l k v r).toL = l.toL ++ (k, v) :: r.toL := by
  unfold bal
  by_cases h1 : l.ht > r.ht + 1
  · rw [if_pos h1]; exact raiseL_toL l k v r (fun e => by subst e; simp [ht] at h1)
  · rw [if_neg h1]
    by_cases h2 : r.ht > l.ht + 1
    · rw [if_pos h2]; exact raiseR_toL l k v r (fun e => by subst e; simp [ht] at h2)
    · rw [if_neg h2]; rfl
theorem bal_size (l : T) (k : Int) (v : Vt) (r : T) : (bal l k v r).size = l.size + 1 + r.size := by
  rw [← size_toL, bal_toL, List.length_append, List.length_cons, size_toL, size_toL]; omega
theorem ins_size (k : Int) (v : Vt) (t : T) : (ins k v t).size = t.size ∨ (ins k v t).size = t.size + 1 := by
  induction t with
  | nil => right; rfl
  | node l k' v' r ihl ihr =>
    simp only [ins]
    by_cases h1 : k < k'
    · rw [if_pos h1, bal_size]; simp only [size]; omega
    · rw [if_neg h1]
      by_cases h2 : k' < k
      · rw [if_pos h2, bal_size]; simp only [size]; omega
      · rw [if_neg h2]; exact .inl rfl
theorem del_size (k : Int) (t : T) : (del k t).size = t.size ∨ (del k t).size + 1 = t.size := by
  induction t generalizing k with
  | nil => left; rfl
  | node l k' v' r ihl ihr =>
    simp only [del]
    have hl := ihl k
    have hr := ihr k
    have hr2 := ihr r.first.1
    by_cases h1 : k < k'
    · rw [if_pos h1, bal_size]; simp only [size]; omega
    · rw [if_neg h1]
      by_cases h2 : k' < k
      · rw [if_pos h2, bal_size]; simp only [size]; omega
      · rw [if_neg h2]
        by_cases h3 : r = nil
        · rw [if_pos h3]; subst h3; exact .inr rfl
        · rw [if_neg h3, bal_size]; simp only [size]; omega

/-! ### Order -/
/-- keys rise -/
def Up (l : List (Int × Vt)) : Prop := l.Pairwise (fun a b => a.1 < b.1)
theorem up_node {l r : List (Int × Vt)} {k : Int} {v : Vt} : Up (l ++ (k, v) :: r) ↔ Up l ∧ Up r ∧ (∀ x ∈ l, x.1 < k) ∧ (∀ x ∈ r, k < x.1) ∧ (∀ x ∈ l, ∀ y ∈ r, x.1 < y.1) := by
  unfold Up
  rw [List.pairwise_append, List.pairwise_cons]
  constructor
  · rintro ⟨a, ⟨b, c⟩, d⟩
    exact ⟨a, c, fun x hx => d x hx _ (List.mem_cons_self ..), b, fun x hx y hy => d x hx y (List.mem_cons_of_mem _ hy)⟩
  · rintro ⟨a, b, c, d, e⟩
    refine ⟨a, ⟨d, b⟩, fun x hx y hy => ?_⟩
    rcases List.mem_cons.1 hy with rfl | hy
    · exact c x hx
    · exact e x hx y hy
/-- the list with a key's value -/
def putL (k : Int) (v : Vt) (l : List (Int × Vt)) : List (Int × Vt) := l.filter (fun x => x.1 < k) ++ (k, v) :: l.filter (fun x => k < x.1)
def delL (k : Int) (l : List (Int × Vt)) : List (Int × Vt) := l.filter (fun x => x.1 < k) ++ l.filter (fun x => k < x.1)
theorem lo_all {l : List (Int × Vt)} {k : Int} (h : ∀ x ∈ l, x.1 < k) : l.filter (fun x => x.1 < k) = l ∧ l.filter (fun x => k < x.1) = [] :=
  ⟨List.filter_eq_self.2 (fun x hx => by simpa using h x hx), List.filter_eq_nil_iff.2 (fun x hx => by have := h x hx; simp; omega)⟩
theorem hi_all {l : List (Int × Vt)} {k : Int} (h : ∀ x ∈ l, k < x.1) : l.filter (fun x => x.1 < k) = [] ∧ l.filter (fun x => k < x.1) = l :=
  ⟨List.filter_eq_nil_iff.2 (fun x hx => by have := h x hx; simp; omega), List.filter_eq_self.2 (fun x hx => by simpa using h x hx)⟩
theorem ins_toL (k : Int) (v : Vt) (t : T) (h : Up t.toL) : (ins k v t).toL = putL k v t.toL := by
  induction t with
  | nil => rfl
  | node l k' v' r ihl ihr =>
    obtain ⟨hl, hr, hlk, hrk, _⟩ := up_node.1 h
    simp only [ins]
    by_cases h1 : k < k'
    · rw [if_pos h1, bal_toL, ihl hl]
      obtain ⟨e1, e2⟩ := hi_all (l := r.toL) (k := k) (fun x hx => by have := hrk x hx; omega)
      simp only [putL, toL, List.filter_append, List.filter_cons, e1, e2]
      rw [if_neg (by simp; omega), if_pos (by simpa using h1)]
      simp
    · rw [if_neg h1]
      by_cases h2 : k' < k
      · rw [if_pos h2, bal_toL, ihr hr]
        obtain ⟨e1, e2⟩ := lo_all (l := l.toL) (k := k) (fun x hx => by have := hlk x hx; omega)
        simp only [putL, toL, List.filter_append, List.filter_cons, e1, e2]
        rw [if_pos (by simpa using h2), if_neg (by simp; omega)]
        simp
      · rw [if_neg h2]
        obtain rfl : k = k' := by omega
        obtain ⟨e1, e2⟩ := lo_all hlk
        obtain ⟨f1, f2⟩ := hi_all hrk
        simp only [putL, toL, List.filter_append, List.filter_cons, e1, e2, f1, f2]
        simp
theorem first_toL (t : T) (h : t ≠ nil) : t.toL.head? = some t.first := by
  induction t with
  | nil => exact absurd rfl h
  | node l k v r ihl ihr =>
    cases l with
    | nil => rfl
    | node ll lk lv lr =>
      have := ihl (by simp)
      show ((node ll lk lv lr).toL ++ _).head? = _
      rw [List.head?_append, this]
      rfl
theorem first_cons (t : T) (h : t ≠ nil) : ∃ r, t.toL = t.first :: r := by
  have := first_toL t h
  cases e : t.toL with
  | nil => rw [e] at this; cases this
  | cons x r => rw [e] at this; cases this; exact ⟨r, rfl⟩
theorem del_toL (k : Int) (t : T) (h : Up t.toL) : (del k t).toL = delL k t.toL := by
  induction t generalizing k with
  | nil => rfl
  | node l k' v' r ihl ihr =>
    obtain ⟨hl, hr, hlk, hrk, _⟩ := up_node.1 h
    simp only [del]
    by_cases h1 : k < k'
    · rw [if_pos h1, bal_toL, ihl k hl]
      obtain ⟨e1, e2⟩ := hi_all (l := r.toL) (k := k) (fun x hx => by have := hrk x hx; omega)
      simp only [delL, toL, List.filter_append, List.filter_cons, e1, e2]
      rw [if_neg (by simp; omega), if_pos (by simpa using h1)]
      simp
    · rw [if_neg h1]
      by_cases h2 : k' < k
      · rw [if_pos h2, bal_toL, ihr k hr]
        obtain ⟨e1, e2⟩ := lo_all (l := l.toL) (k := k) (fun x hx => by have := hlk x hx; omega)
        simp only [delL, toL, List.filter_append, List.filter_cons, e1, e2]
        rw [if_pos (by simpa using h2), if_neg (by simp; omega)]
        simp
      · rw [if_neg h2]
        obtain rfl : k = k' := by omega
        obtain ⟨e1, e2⟩ := lo_all hlk
        obtain ⟨f1, f2⟩ := hi_all hrk
        have hd : delL k (node l k v' r).toL = l.toL ++ r.toL := by
          simp only [delL, toL, List.filter_append, List.filter_cons, e1, e2, f1, f2]
          simp
        rw [hd]
        by_cases h3 : r = nil
        · rw [if_pos h3]; subst h3; simp [toL]
        · rw [if_neg h3, bal_toL, ihr _ hr]
          obtain ⟨q, hq⟩ := first_cons r h3
          rw [hq] at hr ⊢
          have hq2 := List.pairwise_cons.1 hr
          obtain ⟨g1, g2⟩ := hi_all (l := q) (k := r.first.1) hq2.1
          simp only [delL, List.filter_cons, g1, g2]
          simp
theorem putL_up {k : Int} {v : Vt} {l : List (Int × Vt)} (h : Up l) : Up (putL k v l) := by
  refine up_node.2 ⟨List.Pairwise.filter _ h, List.Pairwise.filter _ h, fun x hx => by simpa using (List.mem_filter.1 hx).2, fun x hx => by simpa using (List.mem_filter.1 hx).2, fun x hx y hy => ?_⟩
  have a : x.1 < k := by simpa using (List.mem_filter.1 hx).2
  have b : k < y.1 := by simpa using (List.mem_filter.1 hy).2
  omega
theorem delL_up {k : Int} {l : List (Int × Vt)} (h : Up l) : Up (delL k l) := by
  have := putL_up (k := k) (v := none) h
  obtain ⟨a, b, c, d, e⟩ := up_node.1 this
  unfold delL Up
  rw [List.pairwise_append]
  exact ⟨a, b, e⟩

/-! ### Balance -/
def Bal : T → Prop
  | nil => True
  | node l _ _ r => Bal l ∧ Bal r ∧ l.ht ≤ r.ht + 1 ∧ r.ht ≤ l.ht + 1
theorem bal_Bal {l r : T} (k : Int) (v : Vt) (hl : Bal l) (hr : Bal r) (h1 : l.ht ≤ r.ht + 2) (h2 : r.ht ≤ l.ht + 2) :
    Bal (bal l k v r) ∧ max l.ht r.ht ≤ (bal l k v r).ht ∧ (bal l k v r).ht ≤ 1 + max l.ht r.ht ∧ (l.ht ≤ r.ht + 1 → r.ht ≤ l.ht + 1 → (bal l k v r).ht = 1 + max l.ht r.ht) := by
  unfold bal
  by_cases c1 : l.ht > r.ht + 1
  · rw [if_pos c1]
    cases l with
    | nil => simp [ht] at c1
    | node ll lk lv lr =>
      obtain ⟨b1, b2, b3, b4⟩ := hl
      simp only [ht] at *
      unfold raiseL
      by_cases c2 : lr.ht > ll.ht
      · simp only [if_pos c2]
        cases lr with
        | nil => simp [ht] at c2
        | node a mk mv b =>
          obtain ⟨d1, d2, d3, d4⟩ := b2
          simp only [ht, Bal] at *
          refine ⟨⟨⟨b1, d1, ?_, ?_⟩, ⟨d2, hr, ?_, ?_⟩, ?_, ?_⟩, ?_, ?_, ?_⟩ <;> omega
      · simp only [if_neg c2, ht, Bal]
        refine ⟨⟨b1, ⟨b2, hr, ?_, ?_⟩, ?_, ?_⟩, ?_, ?_, ?_⟩ <;> omega
  · rw [if_neg c1]
    by_cases c3 : r.ht > l.ht + 1
    · rw [if_pos c3]
      cases r with
      | nil => simp [ht] at c3
      | node rl rk rv rr =>
        obtain ⟨b1, b2, b3, b4⟩ := hr
        simp only [ht] at *
        unfold raiseR
        by_cases c2 : rl.ht > rr.ht
        · simp only [if_pos c2]
          cases rl with
          | nil => simp [ht] at c2
          | node a mk mv b =>
            obtain ⟨d1, d2, d3, d4⟩ := b1
            simp only [ht, Bal] at *
            refine ⟨⟨⟨hl, d1, ?_, ?_⟩, ⟨d2, b2, ?_, ?_⟩, ?_, ?_⟩, ?_, ?_, ?_⟩ <;> omega
        · simp only [if_neg c2, ht, Bal]
          refine ⟨⟨⟨hl, b1, ?_, ?_⟩, b2, ?_, ?_⟩, ?_, ?_, ?_⟩ <;> omega
    · rw [if_neg c3]
      simp only [ht, Bal]
      refine ⟨⟨hl, hr, ?_, ?_⟩, ?_, ?_, ?_⟩ <;> first | omega | simp
theorem ins_Bal (k : Int) (v : Vt) {t : T} (h : Bal t) : Bal (ins k v t) ∧ t.ht ≤ (ins k v t).ht ∧ (ins k v t).ht ≤ t.ht + 1 := by
  induction t with
  | nil => simp [ins, Bal, ht]
  | node l k' v' r ihl ihr =>
    obtain ⟨b1, b2, b3, b4⟩ := h
    obtain ⟨l1, l2, l3⟩ := ihl b1
    obtain ⟨r1, r2, r3⟩ := ihr b2
    simp only [ins]
    by_cases h1 : k < k'
    · rw [if_pos h1]
      obtain ⟨q1, q2, q3, q4⟩ := bal_Bal (l := ins k v l) (r := r) k' v' l1 b2 (by omega) (by omega)
      refine ⟨q1, ?_, ?_⟩
      · simp only [ht]
        by_cases c : (ins k v l).ht ≤ r.ht + 1
        · rw [q4 c (by omega)]; omega
        · omega
      · simp only [ht]
        omega
    · rw [if_neg h1]
      by_cases h2 : k' < k
      · rw [if_pos h2]
        obtain ⟨q1, q2, q3, q4⟩ := bal_Bal (l := l) (r := ins k v r) k' v' b1 r1 (by omega) (by omega)
        refine ⟨q1, ?_, ?_⟩
        · simp only [ht]
          by_cases c : (ins k v r).ht ≤ l.ht + 1
          · rw [q4 (by omega) c]; omega
          · omega
        · simp only [ht]
          omega
      · rw [if_neg h2]
        simp only [ht]
        exact ⟨⟨b1, b2, b3, b4⟩, by omega, by omega⟩
theorem del_Bal (k : Int) {t : T} (h : Bal t) : Bal (del k t) ∧ (del k t).ht ≤ t.ht ∧ t.ht ≤ (del k t).ht + 1 := by
  induction t generalizing k with
  | nil => simp [del, Bal, ht]
  | node l k' v' r ihl ihr =>
    obtain ⟨b1, b2, b3, b4⟩ := h
    obtain ⟨l1, l2, l3⟩ := ihl k b1
    obtain ⟨r1, r2, r3⟩ := ihr k b2
    simp only [del]
    by_cases h1 : k < k'
    · rw [if_pos h1]
      obtain ⟨q1, q2, q3, q4⟩ := bal_Bal (l := del k l) (r := r) k' v' l1 b2 (by omega) (by omega)
      refine ⟨q1, ?_, ?_⟩
      · simp only [ht]; omega
      · simp only [ht]
        by_cases c : r.ht ≤ (del k l).ht + 1
        · rw [q4 (by omega) c]; omega
        · omega
    · rw [if_neg h1]
      by_cases h2 : k' < k
      · rw [if_pos h2]
        obtain ⟨q1, q2, q3, q4⟩ := bal_Bal (l := l) (r := del k r) k' v' b1 r1 (by omega) (by omega)
        refine ⟨q1, ?_, ?_⟩
        · simp only [ht]; omega
        · simp only [ht]
          by_cases c : l.ht ≤ (del k r).ht + 1
          · rw [q4 c (by omega)]; omega
          · omega
      · rw [if_neg h2]
        by_cases h3 : r = nil
        · rw [if_pos h3]; subst h3; simp only [ht] at *; exact ⟨b1, by omega, by omega⟩
        · rw [if_neg h3]
          obtain ⟨s1, s2, s3⟩ := ihr r.first.1 b2
          obtain ⟨q1, q2, q3, q4⟩ := bal_Bal (l := l) (r := del r.first.1 r) r.first.1 r.first.2 b1 s1 (by omega) (by omega)
          refine ⟨q1, ?_, ?_⟩
          · simp only [ht]; omega
          · simp only [ht]
            by_cases c : l.ht ≤ (del r.first.1 r).ht + 1
            · rw [q4 c (by omega)]; omega
            · omega
/-- how many keys at least -/
def least : Nat → Nat
  | 0 => 0
  | 1 => 1
  | n + 2 => least n + least (n + 1) + 1
theorem least_step (n : Nat) : least n ≤ least (n + 1) := by
  cases n with
  | zero => exact Nat.zero_le _
  | succ n => show _ ≤ least n + least (n + 1) + 1; omega
theorem least_mono {a b : Nat} (h : a ≤ b) : least a ≤ least b := by
  induction h with
  | refl => exact Nat.le_refl _
  | step _ ih => exact Nat.le_trans ih (least_step _)
theorem least_le {t : T} (h : Bal t) : least t.ht ≤ t.size := by
  induction t with
  | nil => exact Nat.le_refl _
  | node l k v r ihl ihr =>
    obtain ⟨b1, b2, b3, b4⟩ := h
    have hl := ihl b1
    have hr := ihr b2
    simp only [ht, size]
    by_cases c : l.ht ≤ r.ht
    · rw [Nat.max_eq_right c]
      cases e : r.ht with
      | zero => show 1 ≤ _; omega
      | succ n =>
        rw [Nat.add_comm 1]
        show least n + least (n + 1) + 1 ≤ _
        have := least_mono (a := n) (b := l.ht) (by omega)
        rw [e] at hr
        omega
    · rw [Nat.max_eq_left (by omega)]
      cases e : l.ht with
      | zero => show 1 ≤ _; omega
      | succ n =>
        rw [Nat.add_comm 1]
        show least n + least (n + 1) + 1 ≤ _
        have := least_mono (a := n) (b := r.ht) (by omega)
        rw [e] at hl
        omega
theorem least_17 : least 17 = 4180 := by decide
theorem ht_bd {t : T} (h : Bal t) (hs : t.size ≤ 4000) : t.ht ≤ 16 := by
  have := least_le h
  by_cases c : t.ht ≤ 16
  · exact c
  · have := least_mono (a := 17) (b := t.ht) (by omega)
    rw [least_17] at this
    omega
end T
end Go.Proofs.YtohpaoleomcimaaGreat.cv
/-!   Package avl: nodes in memory; making, putting, deleting.
-/
namespace Go.Proofs.YtohpaoleomcimaaGreat.cv
open Go.RowKit aid mem
attribute [local go_sem ↓] Go.wp_at_zero Go.wp_at_succ
set_option linter.unusedVariables false

theorem bal' {w : World} (o : Obj) : Below w.heap.size w (w.alloc o) := (Below.refl _ _).alloc (Nat.le_refl _) _
/-- the block of a node -/
abbrev ndB (l : T) (k : Int) (v : Vt) (r : T) (pl pr : Option Addr) : Obj :=
  .cells #[.int .i64 k, .pointer v, .pointer pl, .pointer pr, .int .i64 ((l.size + 1 + r.size : Nat) : Int), .int .i64 ((1 + max l.ht r.ht : Nat) : Int)] 158 (0, 0)
/-- a tree lies where a pointer leads -/
def NdAt (w : World) : Option Addr → T → Prop
  | p, .nil => p = none
  | p, .node l k v r => ∃ b pl pr, p = some ⟨b, 0, none⟩ ∧ w.heap[b]? = some (ndB l k v r pl pr) ∧ NdAt w pl l ∧ NdAt w pr r

theorem NdAt.keepT {w w' : World} (hk : ∀ (b : Nat) (cs : Array Value), w.heap[b]? = some (.cells cs 158 (0, 0)) → w'.heap[b]? = w.heap[b]?) : ∀ {t : T} {p : Option Addr}, NdAt w p t → NdAt w' p t := by
  intro t
  induction t with
  | nil => intro p h; exact h
  | node l k v r ihl ihr =>
    rintro p ⟨b, pl, pr, rfl, hb, hl, hr⟩
    exact ⟨b, pl, pr, rfl, (hk b _ hb).trans hb, ihl hl, ihr hr⟩
theorem NdAt.later {w w' : World} {t : T} {p : Option Addr} (h : NdAt w p t) (hb : Below w.heap.size w w') : NdAt w' p t :=
  h.keepT (fun b _ hc => hb.block b (lt_of_block hc))
theorem NdAt.nil {w : World} {t : T} (h : NdAt w none t) : t = .nil := by
  cases t with
  | nil => rfl
  | node l k v r => obtain ⟨b, _, _, h, _⟩ := h; cases h
/-- the six cells of a node -/
structure Cs (w : World) (b : Nat) (k : Int) (v : Vt) (pl pr : Option Addr) (n h : Nat) : Prop where
  c0 : w.cell? ⟨b, 0, none⟩ = some (.int .i64 k)
  c1 : w.cell? ⟨b, 1, none⟩ = some (.pointer v)
  c2 : w.cell? ⟨b, 2, none⟩ = some (.pointer pl)
  c3 : w.cell? ⟨b, 3, none⟩ = some (.pointer pr)
  c4 : w.cell? ⟨b, 4, none⟩ = some (.int .i64 (n : Int))
  c5 : w.cell? ⟨b, 5, none⟩ = some (.int .i64 (h : Int))
theorem cs_of {w : World} {b : Nat} {l r : T} {k : Int} {v : Vt} {pl pr : Option Addr} (h : w.heap[b]? = some (ndB l k v r pl pr)) : Cs w b k v pl pr (l.size + 1 + r.size) (1 + max l.ht r.ht) :=
  ⟨(cell_of_row w b 0 _ _ (0, 0) h).trans rfl, (cell_of_row w b 1 _ _ (0, 0) h).trans rfl, (cell_of_row w b 2 _ _ (0, 0) h).trans rfl, (cell_of_row w b 3 _ _ (0, 0) h).trans rfl, (cell_of_row w b 4 _ _ (0, 0) h).trans rfl, (cell_of_row w b 5 _ _ (0, 0) h).trans rfl⟩

theorem count_any {t : T} {p : Option Addr} {w : World} (h : NdAt w p t) : Calls Tryz.prog 89 #[.pointer p] w fun e w' => e = .returned (.int .i64 (t.size : Int)) ∧ w = w' := by
  cases t with
  | nil =>
    obtain rfl : p = none := h
    go_enter Tryz.func89, Tryz.ntmps89
    go_wp2
    go_ret
    exact ⟨rfl, rfl⟩
  | node l k v r =>
    obtain ⟨b, pl, pr, rfl, hb, _, _⟩ := h
    have c4 := (cs_of hb).c4
    show Calls _ _ _ _ fun e w' => e = .returned (.int .i64 ((l.size + 1 + r.size : Nat) : Int)) ∧ _
    generalize l.size + 1 + r.size = n at *
    clear hb
    go_enter Tryz.func89, Tryz.ntmps89
    go_wp2
    go_ret
    exact ⟨rfl, rfl⟩
theorem tall_any {t : T} {p : Option Addr} {w : World} (h : NdAt w p t) : Calls Tryz.prog 129 #[.pointer p] w fun e w' => e = .returned (.int .i64 (t.ht : Int)) ∧ w = w' := by
  cases t with
  | nil =>
    obtain rfl : p = none := h
    go_enter Tryz.func129, Tryz.ntmps129
    go_wp2
    go_ret
    exact ⟨rfl, rfl⟩
  | node l k v r =>
    obtain ⟨b, pl, pr, rfl, hb, _, _⟩ := h
    have c5 := (cs_of hb).c5
    show Calls _ _ _ _ fun e w' => e = .returned (.int .i64 ((1 + max l.ht r.ht : Nat) : Int)) ∧ _
    generalize 1 + max l.ht r.ht = n at *
    clear hb
    go_enter Tryz.func129, Tryz.ntmps129
    go_wp2
    go_ret
    exact ⟨rfl, rfl⟩

/-- what is handed back is a tree -/
def RetT (t : T) (w : World) (e : Ending) (w' : World) : Prop := ∃ p, e = .returned (.pointer p) ∧ NdAt w' p t ∧ Below w.heap.size w w'

theorem nd_new {w : World} {l r : T} {k : Int} {v : Vt} {pl pr : Option Addr} (hl : NdAt w pl l) (hr : NdAt w pr r) : NdAt (w.alloc (ndB l k v r pl pr)) (some ⟨w.heap.size, 0, none⟩) (.node l k v r) :=
  ⟨w.heap.size, pl, pr, rfl, heap_alloc_new w _, hl.later (bal' _), hr.later (bal' _)⟩

theorem nd_new' {w : World} {l r : T} {k : Int} {v : Vt} {pl pr : Option Addr} (hl : NdAt w pl l) (hr : NdAt w pr r) (n h : Int) (hn : n = (l.size : Int) + 1 + (r.size : Int)) (hh : h = 1 + max (l.ht : Int) (r.ht : Int)) :
    NdAt (w.alloc (.cells #[.int .i64 k, .pointer v, .pointer pl, .pointer pr, .int .i64 n, .int .i64 h] 158)) (some ⟨w.heap.size, 0, none⟩) (.node l k v r) := by
  obtain rfl : n = ((l.size + 1 + r.size : Nat) : Int) := by omega
  obtain rfl : h = ((1 + max l.ht r.ht : Nat) : Int) := by omega
  exact nd_new hl hr
set_option maxHeartbeats 1000000 in
theorem join_any {l r : T} {pl pr : Option Addr} (k : Int) (v : Vt) {w : World} (hl : NdAt w pl l) (hr : NdAt w pr r) (hs : l.size + r.size ≤ 1000000) :
    Calls Tryz.prog 113 #[.pointer pl, .int .i64 k, .pointer v, .pointer pr] w (RetT (.node l k v r) w) := by
  have a1 := l.ht_le
  have a2 := r.ht_le
  have HE := Lib.hid (nd_new' (k := k) (v := v) hl hr)
  have HL := Lib.hid hl
  have HR := Lib.hid hr
  clear hl hr
  go_enter Tryz.func113, Tryz.ntmps113
  go_wp2_with (first
    | (go_at_call 89; first | ((with_reducible refine (count_any HL.out).mono ?_); rintro e w' ⟨rfl, rfl⟩) | ((with_reducible refine (count_any HR.out).mono ?_); rintro e w' ⟨rfl, rfl⟩))
    | (go_at_call 129; first | ((with_reducible refine (tall_any HL.out).mono ?_); rintro e w' ⟨rfl, rfl⟩) | ((with_reducible refine (tall_any HR.out).mono ?_); rintro e w' ⟨rfl, rfl⟩)))
  all_goals
    go_ret
    exact ⟨_, rfl, HE.out _ _ (by omega) (by omega), bal' _⟩
end Go.Proofs.YtohpaoleomcimaaGreat.cv
/-!   Package avl: above, raising, balance.
-/
namespace Go.Proofs.YtohpaoleomcimaaGreat.cv
open Go.RowKit aid mem
attribute [local go_sem ↓] Go.wp_at_zero Go.wp_at_succ
set_option linter.unusedVariables false

/-- a node with its parts lies at block b -/
structure NdB (w : World) (b : Nat) (l : T) (k : Int) (v : Vt) (r : T) (pl pr : Option Addr) : Prop where
  here : w.heap[b]? = some (ndB l k v r pl pr)
  left : NdAt w pl l
  right : NdAt w pr r
theorem NdB.later {w w' : World} {b : Nat} {l r : T} {k : Int} {v : Vt} {pl pr : Option Addr} (h : NdB w b l k v r pl pr) (hb : Below w.heap.size w w') : NdB w' b l k v r pl pr :=
  ⟨(hb.block b (lt_of_block h.here)).trans h.here, h.left.later hb, h.right.later hb⟩
theorem NdB.at_ {w : World} {b : Nat} {l r : T} {k : Int} {v : Vt} {pl pr : Option Addr} (h : NdB w b l k v r pl pr) : NdAt w (some ⟨b, 0, none⟩) (.node l k v r) := ⟨b, pl, pr, rfl, h.here, h.left, h.right⟩
theorem NdB.cs {w : World} {b : Nat} {l r : T} {k : Int} {v : Vt} {pl pr : Option Addr} (h : NdB w b l k v r pl pr) : Cs w b k v pl pr (l.size + 1 + r.size) (1 + max l.ht r.ht) := cs_of h.here
theorem NdAt.drew {w : World} {p : Option Addr} {t : T} (h : NdAt w p t) : NdAt w.drew p t := h.later (Below.refl _ _).drew
theorem NdAt.drewN {w : World} {p : Option Addr} {t : T} (h : NdAt w p t) (n : Nat) : NdAt (w.drewN n) p t := NdAt.keepT (w := w) (w' := w.drewN n) (fun _ _ _ => rfl) h
theorem below_drewN (w : World) (n : Nat) : Below w.heap.size w (w.drewN n) := ⟨rfl, rfl, rfl, Nat.le_refl _, fun _ _ => rfl⟩
theorem tall_q {w : World} {p : Option Addr} {t : T} (h : NdAt w p t) (n : Nat) : Calls Tryz.prog 129 #[.pointer p] (w.drewN n) fun e w'' => e = .returned (.int .i64 (t.ht : Int)) ∧ ∃ m, w'' = w.drewN m :=
  (tall_any (h.drewN n)).mono fun _ _ h => ⟨h.1, n, h.2.symm⟩

set_option maxRecDepth 100000 in
set_option maxHeartbeats 1000000 in
theorem above_any {l r : T} {pl pr : Option Addr} {b : Nat} {k : Int} {v : Vt} {w : World} (c0 : w.cell? ⟨b, 0, none⟩ = some (.int .i64 k)) (c1 : w.cell? ⟨b, 1, none⟩ = some (.pointer v)) (hl : NdAt w pl l) (hr : NdAt w pr r) (hs : l.size + r.size ≤ 1000000) :
    Calls Tryz.prog 132 #[.pointer (some ⟨b, 0, none⟩), .pointer pl, .pointer pr] w (RetT (.node l k v r) w) := by
  have HL := Lib.hid hl.drew
  have HR := Lib.hid hr.drew
  have HB := Lib.hid (Below.refl w.heap.size w).drew
  clear hl hr
  go_enter Tryz.func132, Tryz.ntmps132
  go_wp2
  go_region_held3 (fun w' => w'.cell? ⟨b, 0, none⟩ = some (.int .i64 k) ∧ w'.cell? ⟨b, 1, none⟩ = some (.pointer v)) (first | exact ⟨c0, c1⟩ | go_keep) (
    (go_at_call 113; (with_reducible refine (join_any k v HL.out HR.out hs).mono ?_); rintro e w2 ⟨p, rfl, hn, hb⟩; have g0 := (hb.cell (World.block_lt_of_cell? w _ c0)).trans c0; have g1 := (hb.cell (World.block_lt_of_cell? w _ c1)).trans c1))
  all_goals
    go_wp2
    go_ret
    exact ⟨p, rfl, hn, HB.out.trans hb⟩

/-- what lies while two parts are joined: a node with another one below it, a third one's key and value, a tree -/
structure StD (w0 w : World) (x y b : Nat) (o : T) (xk : Int) (xv : Vt) (i j : T) (yk : Int) (yv : Vt) (k : Int) (v : Vt) (r : T) (po pi pj pr : Option Addr) : Prop where
  xc : w.cell? ⟨x, 0, none⟩ = some (.int .i64 xk) ∧ w.cell? ⟨x, 1, none⟩ = some (.pointer xv)
  yc : w.cell? ⟨y, 0, none⟩ = some (.int .i64 yk) ∧ w.cell? ⟨y, 1, none⟩ = some (.pointer yv)
  bc : w.cell? ⟨b, 0, none⟩ = some (.int .i64 k) ∧ w.cell? ⟨b, 1, none⟩ = some (.pointer v)
  x2 : w.cell? ⟨x, 2, none⟩ = some (.pointer po) ∨ w.cell? ⟨x, 3, none⟩ = some (.pointer po)
  ys : w.cell? ⟨y, 2, none⟩ = some (.pointer pi) ∧ w.cell? ⟨y, 3, none⟩ = some (.pointer pj)
  no : NdAt w po o
  ni : NdAt w pi i
  nj : NdAt w pj j
  nr : NdAt w pr r
  below : Below w0.heap.size w0 w
theorem ck {w w' : World} {p : Addr} {v : Value} (hb : Below w.heap.size w w') (h : w.cell? p = some v) : w'.cell? p = some v := (hb.cell (World.block_lt_of_cell? w _ h)).trans h
theorem StD.later {w0 w w' : World} {x y b : Nat} {o i j r : T} {xk yk k : Int} {xv yv v : Vt} {po pi pj pr : Option Addr} (h : StD w0 w x y b o xk xv i j yk yv k v r po pi pj pr) (hb : Below w.heap.size w w') : StD w0 w' x y b o xk xv i j yk yv k v r po pi pj pr :=
  ⟨⟨ck hb h.xc.1, ck hb h.xc.2⟩, ⟨ck hb h.yc.1, ck hb h.yc.2⟩, ⟨ck hb h.bc.1, ck hb h.bc.2⟩, h.x2.imp (ck hb) (ck hb), ⟨ck hb h.ys.1, ck hb h.ys.2⟩, h.no.later hb, h.ni.later hb, h.nj.later hb, h.nr.later hb, h.below.trans (hb.mono h.below.size)⟩

/-- at a node's block: its cells -/
theorem NdB.c (w : World) {b : Nat} {l r : T} {k : Int} {v : Vt} {pl pr : Option Addr} (h : NdB w b l k v r pl pr) : (w.cell? ⟨b, 0, none⟩ = some (.int .i64 k) ∧ w.cell? ⟨b, 1, none⟩ = some (.pointer v)) ∧ w.cell? ⟨b, 2, none⟩ = some (.pointer pl) ∧ w.cell? ⟨b, 3, none⟩ = some (.pointer pr) :=
  ⟨⟨h.cs.c0, h.cs.c1⟩, h.cs.c2, h.cs.c3⟩

set_option maxRecDepth 100000 in
set_option maxHeartbeats 2000000 in
theorem raiseL_any {l r : T} {pl pr : Option Addr} {b : Nat} {k : Int} {v : Vt} {w : World} (c0 : w.cell? ⟨b, 0, none⟩ = some (.int .i64 k)) (c1 : w.cell? ⟨b, 1, none⟩ = some (.pointer v)) (hl : NdAt w pl l) (hr : NdAt w pr r) (hn : l ≠ .nil) (hs : l.size + r.size ≤ 1000000) :
    Calls Tryz.prog 130 #[.pointer (some ⟨b, 0, none⟩), .pointer pl, .pointer pr] w (RetT (T.raiseL l k v r) w) := by
  cases l with
  | nil => exact absurd rfl hn
  | node ll lk lv lr =>
    obtain ⟨bl, pll, plr, rfl, hb, hll, hlr⟩ := hl
    have N : NdB w bl ll lk lv lr pll plr := ⟨hb, hll, hlr⟩
    obtain ⟨d01, d2, d3⟩ := N.c
    by_cases hc : lr.ht > ll.ht
    · cases lr with
      | nil => simp [T.ht] at hc
      | node a mk mv c =>
        obtain ⟨bm, pa, pc, rfl, hm, ha, hcc⟩ := hlr
        have M : NdB w bm a mk mv c pa pc := ⟨hm, ha, hcc⟩
        obtain ⟨e01, e2, e3⟩ := M.c
        have S0 : StD w w bl bm b ll lk lv a c mk mv k v r pll pa pc pr := ⟨d01, e01, ⟨c0, c1⟩, .inl d2, ⟨e2, e3⟩, hll, ha, hcc, hr, Below.refl _ _⟩
        have HS : Hid (∀ n, StD w (w.drewN n) bl bm b ll lk lv a c mk mv k v r pll pa pc pr ∧ (w.drewN n).cell? ⟨bl, 2, none⟩ = some (.pointer pll)) := Lib.hid (fun n => ⟨S0.later (below_drewN w n), d2⟩)
        have HM : Hid (NdAt w (some ⟨bm, 0, none⟩) (.node a mk mv c)) := Lib.hid M.at_
        have HLL := Lib.hid hll
        have hs1 : ll.size + a.size ≤ 1000000 := by simp only [T.size] at hs; omega
        have hs2 : c.size + r.size ≤ 1000000 := by simp only [T.size] at hs; omega
        have hs3 : (T.node ll lk lv a).size + (T.node c k v r).size ≤ 1000000 := by simp only [T.size] at hs ⊢; omega
        have HT : Hid (T.raiseL (.node ll lk lv (.node a mk mv c)) k v r = .node (.node ll lk lv a) mk mv (.node c k v r)) := Lib.hid (by simp only [T.raiseL, if_pos hc])
        generalize T.raiseL (.node ll lk lv (.node a mk mv c)) k v r = t at *
        clear hll ha hcc hr hn N M hb hm S0 hs e01 d01
        go_enter Tryz.func130, Tryz.ntmps130
        go_wp2
        go_quiet ((go_at_call 129; with_reducible (first | exact tall_q HM.out _ | exact tall_q HLL.out _)))
        go_wp2
        obtain ⟨S1, f2⟩ := HS.out nq
        have f3 := S1.ys.1
        have f4 := S1.ys.2
        generalize w.drewN nq = W at *
        clear HS HM HLL d2 d3 e2 e3 c0 c1
        have S2 := S1.later (Below.refl W.heap.size W).drew
        have G : W.drew.cell? ⟨bl, 2, none⟩ = some (.pointer pll) := f2
        clear S1
        go_region_held3 (fun w' => w'.cell? ⟨bl, 2, none⟩ = some (.pointer pll) ∧ w'.cell? ⟨bm, 2, none⟩ = some (.pointer pa) ∧ w'.cell? ⟨bm, 3, none⟩ = some (.pointer pc)) (with_reducible first | exact ⟨G, S2.ys⟩ | exact ⟨GA, SA.ys⟩ | exact ⟨GB, SB.ys⟩ | exact ⟨GC, SC.ys⟩ | go_keep) (first
          | (go_at_call 132; (with_reducible refine (above_any S2.xc.1 S2.xc.2 S2.no S2.ni hs1).mono ?_); rintro e w2 ⟨p1, rfl, hp1, hb⟩; have GA := ck hb G; have SA := S2.later hb; clear S2 G hb)
          | (go_at_call 132; (with_reducible refine (above_any S2.bc.1 S2.bc.2 S2.nj S2.nr hs2).mono ?_); rintro e w2 ⟨p2, rfl, hp2, hb⟩; have GB := ck hb G; have SB := S2.later hb; clear S2 G hb)
          | (go_at_call 132; (with_reducible refine (above_any SA.bc.1 SA.bc.2 SA.nj SA.nr hs2).mono ?_); rintro e w3 ⟨p2, rfl, hp2, hb⟩; have GC := ck hb GA; have SC := SA.later hb; replace hp1 := hp1.later hb; clear SA GA hb)
          | (go_at_call 132; (with_reducible refine (above_any SB.xc.1 SB.xc.2 SB.no SB.ni hs1).mono ?_); rintro e w3 ⟨p1, rfl, hp1, hb⟩; have GC := ck hb GB; have SC := SB.later hb; replace hp2 := hp2.later hb; clear SB GB hb)
          | (go_at_call 132; (with_reducible refine (above_any SC.yc.1 SC.yc.2 hp1 hp2 hs3).mono ?_); rintro e w4 ⟨p3, rfl, hp3, hb⟩; have GA := ck hb GC; have SA := SC.later hb; clear SC GC hb))
        all_goals
          go_wp2
          go_ret
          exact ⟨p3, rfl, by rw [HT.out]; exact hp3, SA.below⟩
    · have S0 : StD w w bl bl b ll lk lv ll lr lk lv k v r pll pll plr pr := ⟨d01, d01, ⟨c0, c1⟩, .inl d2, ⟨d2, d3⟩, hll, hll, hlr, hr, Below.refl _ _⟩
      have HS : Hid (∀ n, StD w (w.drewN n) bl bl b ll lk lv ll lr lk lv k v r pll pll plr pr) := Lib.hid (fun n => S0.later (below_drewN w n))
      have HM := Lib.hid hlr
      have HLL := Lib.hid hll
      have hs1 : lr.size + r.size ≤ 1000000 := by simp only [T.size] at hs; omega
      have hs2 : ll.size + (T.node lr k v r).size ≤ 1000000 := by simp only [T.size] at hs ⊢; omega
      have HT : Hid (T.raiseL (.node ll lk lv lr) k v r = .node ll lk lv (.node lr k v r)) := Lib.hid (by simp only [T.raiseL, if_neg hc])
      generalize T.raiseL (.node ll lk lv lr) k v r = t at *
      clear hll hlr hr hn N hb S0 hs d01
      go_enter Tryz.func130, Tryz.ntmps130
      go_wp2
      go_quiet ((go_at_call 129; with_reducible (first | exact tall_q HM.out _ | exact tall_q HLL.out _)))
      go_wp2
      have S1 := HS.out nq
      have f3 := S1.ys.1
      have f4 := S1.ys.2
      generalize w.drewN nq = W at *
      clear HS HM HLL d2 d3 c0 c1
      have S2 := S1.later (Below.refl W.heap.size W).drew
      clear S1
      go_region_held3 (fun w' => w'.cell? ⟨bl, 2, none⟩ = some (.pointer pll) ∧ w'.cell? ⟨bl, 3, none⟩ = some (.pointer plr)) (with_reducible first | exact S2.ys | exact SA.ys | exact SB.ys | go_keep) (first
        | (go_at_call 132; (with_reducible refine (above_any S2.bc.1 S2.bc.2 S2.nj S2.nr hs1).mono ?_); rintro e w2 ⟨p1, rfl, hp1, hb⟩; have SA := S2.later hb; clear S2 hb)
        | (go_at_call 132; (with_reducible refine (above_any SA.xc.1 SA.xc.2 SA.no hp1 hs2).mono ?_); rintro e w4 ⟨p3, rfl, hp3, hb⟩; have SB := SA.later hb; clear hp1 hb))
      all_goals
        go_wp2
        go_ret
        exact ⟨p3, rfl, by rw [HT.out]; exact hp3, SB.below⟩

set_option maxRecDepth 100000 in
set_option maxHeartbeats 2000000 in
theorem raiseR_any {l r : T} {pl pr : Option Addr} {b : Nat} {k : Int} {v : Vt} {w : World} (c0 : w.cell? ⟨b, 0, none⟩ = some (.int .i64 k)) (c1 : w.cell? ⟨b, 1, none⟩ = some (.pointer v)) (hl : NdAt w pl l) (hr : NdAt w pr r) (hn : r ≠ .nil) (hs : l.size + r.size ≤ 1000000) :
    Calls Tryz.prog 131 #[.pointer (some ⟨b, 0, none⟩), .pointer pl, .pointer pr] w (RetT (T.raiseR l k v r) w) := by
  cases r with
  | nil => exact absurd rfl hn
  | node rl rk rv rr =>
    obtain ⟨br, prl, prr, rfl, hb, hrl, hrr⟩ := hr
    have N : NdB w br rl rk rv rr prl prr := ⟨hb, hrl, hrr⟩
    obtain ⟨d01, d2, d3⟩ := N.c
    by_cases hc : rl.ht > rr.ht
    · cases rl with
      | nil => simp [T.ht] at hc
      | node a mk mv c =>
        obtain ⟨bm, pa, pc, rfl, hm, ha, hcc⟩ := hrl
        have M : NdB w bm a mk mv c pa pc := ⟨hm, ha, hcc⟩
        obtain ⟨e01, e2, e3⟩ := M.c
        have S0 : StD w w br bm b rr rk rv a c mk mv k v l prr pa pc pl := ⟨d01, e01, ⟨c0, c1⟩, .inr d3, ⟨e2, e3⟩, hrr, ha, hcc, hl, Below.refl _ _⟩
        have HS : Hid (∀ n, StD w (w.drewN n) br bm b rr rk rv a c mk mv k v l prr pa pc pl ∧ (w.drewN n).cell? ⟨br, 3, none⟩ = some (.pointer prr)) := Lib.hid (fun n => ⟨S0.later (below_drewN w n), d3⟩)
        have HM : Hid (NdAt w (some ⟨bm, 0, none⟩) (.node a mk mv c)) := Lib.hid M.at_
        have HLL := Lib.hid hrr
        have hs1 : l.size + a.size ≤ 1000000 := by simp only [T.size] at hs; omega
        have hs2 : c.size + rr.size ≤ 1000000 := by simp only [T.size] at hs; omega
        have hs3 : (T.node l k v a).size + (T.node c rk rv rr).size ≤ 1000000 := by simp only [T.size] at hs ⊢; omega
        have HT : Hid (T.raiseR l k v (.node (.node a mk mv c) rk rv rr) = .node (.node l k v a) mk mv (.node c rk rv rr)) := Lib.hid (by simp only [T.raiseR, if_pos hc])
        generalize T.raiseR l k v (.node (.node a mk mv c) rk rv rr) = t at *
        clear hrr ha hcc hl hn N M hb hm S0 hs e01 d01
        go_enter Tryz.func131, Tryz.ntmps131
        go_wp2
        go_quiet ((go_at_call 129; with_reducible (first | exact tall_q HM.out _ | exact tall_q HLL.out _)))
        go_wp2
        obtain ⟨S1, f2⟩ := HS.out nq
        have f3 := S1.ys.1
        have f4 := S1.ys.2
        generalize w.drewN nq = W at *
        clear HS HM HLL d2 d3 e2 e3 c0 c1
        have S2 := S1.later (Below.refl W.heap.size W).drew
        have G : W.drew.cell? ⟨br, 3, none⟩ = some (.pointer prr) := f2
        clear S1
        go_region_held3 (fun w' => w'.cell? ⟨br, 3, none⟩ = some (.pointer prr) ∧ w'.cell? ⟨bm, 2, none⟩ = some (.pointer pa) ∧ w'.cell? ⟨bm, 3, none⟩ = some (.pointer pc)) (with_reducible first | exact ⟨G, S2.ys⟩ | exact ⟨GA, SA.ys⟩ | exact ⟨GB, SB.ys⟩ | exact ⟨GC, SC.ys⟩ | go_keep) (first
          | (go_at_call 132; (with_reducible refine (above_any S2.bc.1 S2.bc.2 S2.nr S2.ni hs1).mono ?_); rintro e w2 ⟨p1, rfl, hp1, hb⟩; have GA := ck hb G; have SA := S2.later hb; clear S2 G hb)
          | (go_at_call 132; (with_reducible refine (above_any S2.xc.1 S2.xc.2 S2.nj S2.no hs2).mono ?_); rintro e w2 ⟨p2, rfl, hp2, hb⟩; have GB := ck hb G; have SB := S2.later hb; clear S2 G hb)
          | (go_at_call 132; (with_reducible refine (above_any SA.xc.1 SA.xc.2 SA.nj SA.no hs2).mono ?_); rintro e w3 ⟨p2, rfl, hp2, hb⟩; have GC := ck hb GA; have SC := SA.later hb; replace hp1 := hp1.later hb; clear SA GA hb)
          | (go_at_call 132; (with_reducible refine (above_any SB.bc.1 SB.bc.2 SB.nr SB.ni hs1).mono ?_); rintro e w3 ⟨p1, rfl, hp1, hb⟩; have GC := ck hb GB; have SC := SB.later hb; replace hp2 := hp2.later hb; clear SB GB hb)
          | (go_at_call 132; (with_reducible refine (above_any SC.yc.1 SC.yc.2 hp1 hp2 hs3).mono ?_); rintro e w4 ⟨p3, rfl, hp3, hb⟩; have GA := ck hb GC; have SA := SC.later hb; clear SC GC hb))
        all_goals
          go_wp2
          go_ret
          exact ⟨p3, rfl, by rw [HT.out]; exact hp3, SA.below⟩
    · have S0 : StD w w br br b rr rk rv rl rr rk rv k v l prr prl prr pl := ⟨d01, d01, ⟨c0, c1⟩, .inr d3, ⟨d2, d3⟩, hrr, hrl, hrr, hl, Below.refl _ _⟩
      have HS : Hid (∀ n, StD w (w.drewN n) br br b rr rk rv rl rr rk rv k v l prr prl prr pl) := Lib.hid (fun n => S0.later (below_drewN w n))
      have HM := Lib.hid hrl
      have HLL := Lib.hid hrr
      have hs1 : l.size + rl.size ≤ 1000000 := by simp only [T.size] at hs; omega
      have hs2 : (T.node l k v rl).size + rr.size ≤ 1000000 := by simp only [T.size] at hs ⊢; omega
      have HT : Hid (T.raiseR l k v (.node rl rk rv rr) = .node (.node l k v rl) rk rv rr) := Lib.hid (by simp only [T.raiseR, if_neg hc])
      generalize T.raiseR l k v (.node rl rk rv rr) = t at *
      clear hrl hrr hl hn N hb S0 hs d01
      go_enter Tryz.func131, Tryz.ntmps131
      go_wp2
      go_quiet ((go_at_call 129; with_reducible (first | exact tall_q HM.out _ | exact tall_q HLL.out _)))
      go_wp2
      have S1 := HS.out nq
      have f3 := S1.ys.1
      have f4 := S1.ys.2
      generalize w.drewN nq = W at *
      clear HS HM HLL d2 d3 c0 c1
      have S2 := S1.later (Below.refl W.heap.size W).drew
      clear S1
      go_region_held3 (fun w' => w'.cell? ⟨br, 2, none⟩ = some (.pointer prl) ∧ w'.cell? ⟨br, 3, none⟩ = some (.pointer prr)) (with_reducible first | exact S2.ys | exact SA.ys | exact SB.ys | go_keep) (first
        | (go_at_call 132; (with_reducible refine (above_any S2.bc.1 S2.bc.2 S2.nr S2.ni hs1).mono ?_); rintro e w2 ⟨p1, rfl, hp1, hb⟩; have SA := S2.later hb; clear S2 hb)
        | (go_at_call 132; (with_reducible refine (above_any SA.xc.1 SA.xc.2 hp1 SA.no hs2).mono ?_); rintro e w4 ⟨p3, rfl, hp3, hb⟩; have SB := SA.later hb; clear hp1 hb))
      all_goals
        go_wp2
        go_ret
        exact ⟨p3, rfl, by rw [HT.out]; exact hp3, SB.below⟩

set_option maxRecDepth 100000 in
set_option maxHeartbeats 2000000 in
theorem balance_any {l r : T} {pl pr : Option Addr} {b : Nat} {k : Int} {v : Vt} {w : World} (c0 : w.cell? ⟨b, 0, none⟩ = some (.int .i64 k)) (c1 : w.cell? ⟨b, 1, none⟩ = some (.pointer v)) (hl : NdAt w pl l) (hr : NdAt w pr r) (hs : l.size + r.size ≤ 1000000) :
    Calls Tryz.prog 114 #[.pointer (some ⟨b, 0, none⟩), .pointer pl, .pointer pr] w (RetT (T.bal l k v r) w) := by
  have HL := Lib.hid hl
  have HR := Lib.hid hr
  have a1 := l.ht_le
  have a2 := r.ht_le
  by_cases h1 : l.ht > r.ht + 1
  · have HC := Lib.hid (raiseL_any c0 c1 hl hr (fun e => by subst e; simp [T.ht] at h1) hs)
    have HT : Hid (T.bal l k v r = T.raiseL l k v r) := Lib.hid (by unfold T.bal; rw [if_pos h1])
    generalize T.bal l k v r = t at *
    clear hl hr c0 c1
    go_enter Tryz.func114, Tryz.ntmps114
    go_wp2_with (first
      | (go_at_call 129; first | ((with_reducible refine (tall_any HL.out).mono ?_); rintro e w' ⟨rfl, rfl⟩) | ((with_reducible refine (tall_any HR.out).mono ?_); rintro e w' ⟨rfl, rfl⟩))
      | (go_at_call 130; (with_reducible refine HC.out.mono ?_); rintro e w' ⟨p, rfl, hp, hb⟩))
    go_ret
    exact ⟨p, rfl, by rw [HT.out]; exact hp, hb⟩
  · by_cases h2 : r.ht > l.ht + 1
    · have HC := Lib.hid (raiseR_any c0 c1 hl hr (fun e => by subst e; simp [T.ht] at h2) hs)
      have HT : Hid (T.bal l k v r = T.raiseR l k v r) := Lib.hid (by unfold T.bal; rw [if_neg h1, if_pos h2])
      generalize T.bal l k v r = t at *
      clear hl hr c0 c1
      go_enter Tryz.func114, Tryz.ntmps114
      go_wp2_with (first
        | (go_at_call 129; first | ((with_reducible refine (tall_any HL.out).mono ?_); rintro e w' ⟨rfl, rfl⟩) | ((with_reducible refine (tall_any HR.out).mono ?_); rintro e w' ⟨rfl, rfl⟩))
        | (go_at_call 131; (with_reducible refine HC.out.mono ?_); rintro e w' ⟨p, rfl, hp, hb⟩))
      go_ret
      exact ⟨p, rfl, by rw [HT.out]; exact hp, hb⟩
    · have HC := Lib.hid (above_any c0 c1 hl hr hs)
      have HT : Hid (T.bal l k v r = T.node l k v r) := Lib.hid (by unfold T.bal; rw [if_neg h1, if_neg h2])
      generalize T.bal l k v r = t at *
      clear hl hr c0 c1
      go_enter Tryz.func114, Tryz.ntmps114
      go_wp2_with (first
        | (go_at_call 129; first | ((with_reducible refine (tall_any HL.out).mono ?_); rintro e w' ⟨rfl, rfl⟩) | ((with_reducible refine (tall_any HR.out).mono ?_); rintro e w' ⟨rfl, rfl⟩))
        | (go_at_call 132; (with_reducible refine HC.out.mono ?_); rintro e w' ⟨p, rfl, hp, hb⟩))
      go_ret
      exact ⟨p, rfl, by rw [HT.out]; exact hp, hb⟩
end Go.Proofs.YtohpaoleomcimaaGreat.cv
/-!   What is asked of lists of pairs: the key at a place, the keys about a key, how many are below. Imports nothing of the program.
-/
namespace Go.Proofs.YtohpaoleomcimaaGreat.cv
set_option linter.unusedVariables false

abbrev Ps := List (Int × Vt)
/-- the pair at a place -/
def atL (l : Ps) (i : Int) : Option (Int × Vt) := if 0 ≤ i then l[i.toNat]? else none
theorem atL_nil (i : Int) : atL [] i = none := by unfold atL; split <;> simp
theorem atL_lo {l r : Ps} {x : Int × Vt} {i : Int} (h : i < (l.length : Int)) : atL (l ++ x :: r) i = atL l i := by
  unfold atL
  by_cases h0 : 0 ≤ i
  · rw [if_pos h0, if_pos h0, List.getElem?_append_left (by omega)]
  · rw [if_neg h0, if_neg h0]
theorem atL_eq {l r : Ps} {x : Int × Vt} {i : Int} (h : i = (l.length : Int)) : atL (l ++ x :: r) i = some x := by
  unfold atL
  subst h
  rw [if_pos (by omega), List.getElem?_append_right (by simp)]
  simp
theorem atL_hi {l r : Ps} {x : Int × Vt} {i : Int} (h : (l.length : Int) < i) : atL (l ++ x :: r) i = atL r (i - ((l.length : Int) + 1)) := by
  unfold atL
  rw [if_pos (by omega), if_pos (by omega), List.getElem?_append_right (by omega)]
  rw [show i.toNat - l.length = (i - ((l.length : Int) + 1)).toNat + 1 from by omega]
  simp
theorem atL_zero {l : Ps} : atL l 0 = l.head? := by cases l <;> rfl

/-- the last pair whose key is not above -/
def flL (l : Ps) (key : Int) : Option (Int × Vt) := (l.filter (fun x => decide (x.1 ≤ key))).getLast?
/-- the first pair whose key is not below -/
def ceL (l : Ps) (key : Int) : Option (Int × Vt) := (l.filter (fun x => decide (key ≤ x.1))).head?
/-- how many are below -/
def rkL (l : Ps) (key : Int) : Nat := (l.filter (fun x => decide (x.1 < key))).length
theorem fl_hi {l r : Ps} {k key : Int} {v : Vt} (h : T.Up (l ++ (k, v) :: r)) (hk : key < k) : flL (l ++ (k, v) :: r) key = flL l key := by
  obtain ⟨_, _, _, h4, _⟩ := T.up_node.1 h
  unfold flL
  rw [List.filter_append, List.filter_cons, if_neg (by simp; omega), (List.filter_eq_nil_iff (l := r)).2 (fun x hx => by have := h4 x hx; simp; omega), List.append_nil]
theorem fl_lo {l r : Ps} {k key : Int} {v : Vt} (hk : k ≤ key) : flL (l ++ (k, v) :: r) key = (flL r key).or (some (k, v)) := by
  unfold flL
  rw [List.filter_append, List.filter_cons, if_pos (by simpa using hk)]
  generalize r.filter _ = q
  generalize l.filter _ = p
  cases e : q.getLast? with
  | none => rw [List.getLast?_eq_none_iff.1 e]; simp
  | some y =>
    rw [List.getLast?_append]
    have : ((k, v) :: q).getLast? = some y := by
      rw [List.getLast?_cons, e]; rfl
    rw [this]; simp
theorem ce_lo {l r : Ps} {k key : Int} {v : Vt} (h : T.Up (l ++ (k, v) :: r)) (hk : k < key) : ceL (l ++ (k, v) :: r) key = ceL r key := by
  obtain ⟨_, _, h3, _, _⟩ := T.up_node.1 h
  unfold ceL
  rw [List.filter_append, List.filter_cons, if_neg (by simp; omega), List.filter_eq_nil_iff.2 (fun x hx => by have := h3 x hx; simp; omega), List.nil_append]
theorem ce_hi {l r : Ps} {k key : Int} {v : Vt} (hk : key ≤ k) : ceL (l ++ (k, v) :: r) key = (ceL l key).or (some (k, v)) := by
  unfold ceL
  rw [List.filter_append, List.filter_cons, if_pos (by simpa using hk), List.head?_append]
  simp
theorem rk_lo {l r : Ps} {k key : Int} {v : Vt} (h : T.Up (l ++ (k, v) :: r)) (hk : k < key) : rkL (l ++ (k, v) :: r) key = l.length + 1 + rkL r key := by
  obtain ⟨_, _, h3, _, _⟩ := T.up_node.1 h
  unfold rkL
  rw [List.filter_append, List.filter_cons, if_pos (by simpa using hk), List.length_append, List.length_cons, List.filter_eq_self.2 (fun x hx => by have := h3 x hx; simp; omega)]
  omega
theorem rk_hi {l r : Ps} {k key : Int} {v : Vt} (h : T.Up (l ++ (k, v) :: r)) (hk : key ≤ k) : rkL (l ++ (k, v) :: r) key = rkL l key := by
  obtain ⟨_, _, _, h4, _⟩ := T.up_node.1 h
  unfold rkL
  rw [List.filter_append, List.filter_cons, if_neg (by simp; omega), (List.filter_eq_nil_iff (l := r)).2 (fun x hx => by have := h4 x hx; simp; omega), List.append_nil]
theorem rk_le (l : Ps) (key : Int) : rkL l key ≤ l.length := List.length_filter_le _ _
end Go.Proofs.YtohpaoleomcimaaGreat.cv
/-!   Package avl: putting, the node at a place, deleting.
-/
namespace Go.Proofs.YtohpaoleomcimaaGreat.cv
open Go.RowKit aid mem
attribute [local go_sem ↓] Go.wp_at_zero Go.wp_at_succ
set_option linter.unusedVariables false

set_option maxRecDepth 100000 in
set_option maxHeartbeats 4000000 in
theorem with_any (k : Int) (v : Vt) : ∀ (t : T) {p : Option Addr} {w : World}, NdAt w p t → t.size ≤ 900000 →
    Calls Tryz.prog 85 #[.pointer p, .int .i64 k, .pointer v] w (RetT (T.ins k v t) w) := by
  intro t
  induction t with
  | nil =>
    intro p w h hs
    obtain rfl : p = none := h
    have HJ := Lib.hid (join_any (l := .nil) (r := .nil) (pl := none) (pr := none) k v (w := w) rfl rfl (by simp [T.size]))
    go_enter Tryz.func85, Tryz.ntmps85
    go_wp2_with (go_at_call 113; (with_reducible refine HJ.out.mono ?_); rintro e w' ⟨p, rfl, hp, hb⟩)
    go_ret
    exact ⟨p, rfl, hp, hb⟩
  | node l k' v' r ihl ihr =>
    intro p w h hs
    obtain ⟨b, pl, pr, rfl, hb, hl, hr⟩ := h
    have N : NdB w b l k' v' r pl pr := ⟨hb, hl, hr⟩
    obtain ⟨d01, d2, d3⟩ := N.c
    have d0 := d01.1
    have ND := N.later (Below.refl w.heap.size w).drew
    have HB := Lib.hid (Below.refl w.heap.size w).drew
    simp only [T.size] at hs
    have z1 := T.ins_size k v l
    have z2 := T.ins_size k v r
    clear hb N
    by_cases h1 : k < k'
    · have HT : Hid (T.ins k v (.node l k' v' r) = T.bal (T.ins k v l) k' v' r) := Lib.hid (by simp only [T.ins, if_pos h1])
      have hs1 : l.size ≤ 900000 := by omega
      have hs2 : (T.ins k v l).size + r.size ≤ 1000000 := by omega
      have HI := Lib.hid (fun (w' : World) (h : NdAt w' pl l) => ihl h hs1)
      generalize T.ins k v (.node l k' v' r) = t at *
      generalize T.ins k v l = q at *
      clear ihl ihr z1 z2 hl hr d01
      go_enter Tryz.func85, Tryz.ntmps85
      go_wp2
      go_region_held3 (fun w' => w'.cell? ⟨b, 2, none⟩ = some (.pointer pl) ∧ w'.cell? ⟨b, 3, none⟩ = some (.pointer pr)) (with_reducible first | exact ⟨ND.cs.c2, ND.cs.c3⟩ | exact ⟨NA.cs.c2, NA.cs.c3⟩ | exact ⟨NC.cs.c2, NC.cs.c3⟩ | go_keep) (first
        | (go_at_call 85; (with_reducible refine (HI.out _ ND.left).mono ?_); rintro e w2 ⟨p1, rfl, hp1, hb⟩; have NA := ND.later hb; have BA := HB.out.trans hb; clear ND hb)
        | (go_at_call 114; (with_reducible refine (balance_any NA.cs.c0 NA.cs.c1 hp1 NA.right hs2).mono ?_); rintro e w2 ⟨p2, rfl, hp2, hb⟩; have NC := NA.later hb; have BC := BA.trans (hb.mono BA.size); clear NA hb))
      all_goals
        go_wp2
        go_ret
        exact ⟨p2, rfl, by rw [HT.out]; exact hp2, BC⟩
    · by_cases h2 : k' < k
      · have HT : Hid (T.ins k v (.node l k' v' r) = T.bal l k' v' (T.ins k v r)) := Lib.hid (by simp only [T.ins, if_neg h1, if_pos h2])
        have hs1 : r.size ≤ 900000 := by omega
        have hs2 : l.size + (T.ins k v r).size ≤ 1000000 := by omega
        have HI := Lib.hid (fun (w' : World) (h : NdAt w' pr r) => ihr h hs1)
        generalize T.ins k v (.node l k' v' r) = t at *
        generalize T.ins k v r = q at *
        clear ihl ihr z1 z2 hl hr d01
        go_enter Tryz.func85, Tryz.ntmps85
        go_wp2
        go_region_held3 (fun w' => w'.cell? ⟨b, 2, none⟩ = some (.pointer pl) ∧ w'.cell? ⟨b, 3, none⟩ = some (.pointer pr)) (with_reducible first | exact ⟨ND.cs.c2, ND.cs.c3⟩ | exact ⟨NA.cs.c2, NA.cs.c3⟩ | exact ⟨NC.cs.c2, NC.cs.c3⟩ | go_keep) (first
          | (go_at_call 85; (with_reducible refine (HI.out _ ND.right).mono ?_); rintro e w2 ⟨p1, rfl, hp1, hb⟩; have NA := ND.later hb; have BA := HB.out.trans hb; clear ND hb)
          | (go_at_call 114; (with_reducible refine (balance_any NA.cs.c0 NA.cs.c1 NA.left hp1 hs2).mono ?_); rintro e w2 ⟨p2, rfl, hp2, hb⟩; have NC := NA.later hb; have BC := BA.trans (hb.mono BA.size); clear NA hb))
        all_goals
          go_wp2
          go_ret
          exact ⟨p2, rfl, by rw [HT.out]; exact hp2, BC⟩
      · have HT : Hid (T.ins k v (.node l k' v' r) = .node l k v r) := Lib.hid (by simp only [T.ins, if_neg h1, if_neg h2])
        have hs2 : l.size + r.size ≤ 1000000 := by omega
        generalize T.ins k v (.node l k' v' r) = t at *
        clear ihl ihr z1 z2 hl hr d01
        go_enter Tryz.func85, Tryz.ntmps85
        go_wp2
        go_region_held3 (fun w' => w'.cell? ⟨b, 2, none⟩ = some (.pointer pl) ∧ w'.cell? ⟨b, 3, none⟩ = some (.pointer pr)) (with_reducible first | exact ⟨ND.cs.c2, ND.cs.c3⟩ | exact ⟨NC.cs.c2, NC.cs.c3⟩ | go_keep) (first
          | (go_at_call 113; (with_reducible refine (join_any k v ND.left ND.right hs2).mono ?_); rintro e w2 ⟨p2, rfl, hp2, hb⟩; have NC := ND.later hb; have BC := HB.out.trans hb; clear hb))
        all_goals
          go_wp2
          go_ret
          exact ⟨p2, rfl, by rw [HT.out]; exact hp2, BC⟩

/-- a pointer leads to a node with a pair; or it is none -/
def NodeOf (w : World) (q : Option Addr) : Option (Int × Vt) → Prop
  | none => q = none
  | some x => ∃ b, q = some ⟨b, 0, none⟩ ∧ w.cell? ⟨b, 0, none⟩ = some (.int .i64 x.1) ∧ w.cell? ⟨b, 1, none⟩ = some (.pointer x.2)
theorem NodeOf.later {w w' : World} {q : Option Addr} {o : Option (Int × Vt)} (h : NodeOf w q o) (hb : Below w.heap.size w w') : NodeOf w' q o := by
  cases o with
  | none => exact h
  | some x => obtain ⟨b, rfl, h0, h1⟩ := h; exact ⟨b, rfl, ck hb h0, ck hb h1⟩
/-- what is handed back is a node -/
def RetN (o : Option (Int × Vt)) (w : World) (e : Ending) (w' : World) : Prop := ∃ q, e = .returned (.pointer q) ∧ NodeOf w q o ∧ w = w'

set_option maxRecDepth 100000 in
set_option maxHeartbeats 4000000 in
theorem at_any {t : T} {p : Option Addr} {w : World} (h : NdAt w p t) (i : Int) (hi : -9223372036854775808 ≤ i ∧ i ≤ 9223372036854775807) (hs : t.size ≤ 1000000) :
    Calls Tryz.prog 105 #[.pointer p, .int .i64 i] w (RetN (atL t.toL i) w) := by
  have HN := Lib.hid h
  obtain ⟨o, ho⟩ : ∃ o, o = atL t.toL i := ⟨_, rfl⟩
  rw [← ho]
  have HO := Lib.hid ho
  clear ho h
  go_enter Tryz.func105, Tryz.ntmps105
  go_wp2
  go_loopg [0, 1] t.size (fun n s0 s1 wr => ∃ (t' : T) (p' : Option Addr) (i' : Int), s0 = .pointer p' ∧ s1 = .int .i64 i' ∧ t'.size = n ∧ NdAt w p' t' ∧ Hid (o = atL t'.toL i') ∧ t'.size ≤ 1000000 ∧ -9223372036854775808 ≤ i' ∧ i' ≤ 9223372036854775807 ∧ wr = w)
  case atStart => exact ⟨t, p, i, rfl, rfl, rfl, HN.out, HO, hs, hi.1, hi.2, rfl⟩
  case round =>
    clear HN HO hi hs
    obtain ⟨t', p', i', rfl, rfl, rfl, hn, HO, hs, h1, h2, rfl⟩ := hrel
    cases t' with
    | nil =>
      obtain rfl : p' = none := hn
      go_wp2
      go_ret
      exact ⟨none, rfl, by rw [HO.out, show T.nil.toL = [] from rfl, atL_nil]; rfl, rfl⟩
    | node l k v r =>
      obtain ⟨b, pl, pr, rfl, hb, hl, hr⟩ := hn
      obtain ⟨c0, c1, c2, c3, _, _⟩ := cs_of hb
      have HL := Lib.hid hl
      have HR := Lib.hid hr
      have hz := T.size_toL l
      simp only [T.size] at hs
      have HA := Lib.hid (show ∀ i : Int, i < (l.size : Int) → atL (T.node l k v r).toL i = atL l.toL i from fun i hi => atL_lo (by rw [hz]; exact hi))
      have HB := Lib.hid (show ∀ i : Int, i = (l.size : Int) → atL (T.node l k v r).toL i = some (k, v) from fun i hi => atL_eq (by rw [hz]; exact hi))
      have HC := Lib.hid (show ∀ i : Int, (l.size : Int) < i → atL (T.node l k v r).toL i = atL r.toL (i - ((l.size : Int) + 1)) from fun i hi => by rw [← hz] at hi ⊢; exact atL_hi hi)
      have HZ : Hid ((T.node l k v r).size = l.size + 1 + r.size) := Lib.hid rfl
      clear hb hl hr hz
      go_wp2_with (go_at_call 89; (with_reducible refine (count_any HL.out).mono ?_); rintro e w' ⟨rfl, rfl⟩)
      · have hlt : i' < (l.size : Int) := by omega
        go_roundg l.size
        case measure => rw [HZ.out]; omega
        case rel => exact ⟨l, pl, i', rfl, rfl, rfl, HL.out, Lib.hid (by rw [HO.out, HA.out i' hlt]), by omega, h1, h2, rfl⟩
      · have heq : i' = (l.size : Int) := by
          have h : (i' == (l.size : Int)) = true := by assumption
          simpa using h
        go_ret
        exact ⟨_, rfl, by rw [HO.out, HB.out _ heq]; exact ⟨b, rfl, c0, c1⟩, rfl⟩
      · have hgt : (l.size : Int) < i' := by
          have h : (i' == (l.size : Int)) = false := by assumption
          have h' : ¬ i' = (l.size : Int) := by simpa using h
          omega
        go_roundg r.size
        case measure => rw [HZ.out]; omega
        case rel => exact ⟨r, pr, i' - ((l.size : Int) + 1), rfl, rfl, rfl, HR.out, Lib.hid (by rw [HO.out, HC.out i' hgt]), by omega, by omega, by omega, rfl⟩

set_option maxRecDepth 100000 in
set_option maxHeartbeats 4000000 in
theorem without_any : ∀ (t : T) (k : Int) {p : Option Addr} {w : World}, NdAt w p t → t.size ≤ 900000 →
    Calls Tryz.prog 101 #[.pointer p, .int .i64 k] w (RetT (T.del k t) w) := by
  intro t
  induction t with
  | nil =>
    intro k p w h hs
    obtain rfl : p = none := h
    go_enter Tryz.func101, Tryz.ntmps101
    go_wp2_with fail
    go_ret
    exact ⟨none, rfl, rfl, Below.refl _ _⟩
  | node l k' v' r ihl ihr =>
    intro k p w h hs
    obtain ⟨b, pl, pr, rfl, hb, hl, hr⟩ := h
    have N : NdB w b l k' v' r pl pr := ⟨hb, hl, hr⟩
    obtain ⟨d01, d2, d3⟩ := N.c
    have d0 := d01.1
    have ND := N.later (Below.refl w.heap.size w).drew
    have HB := Lib.hid (Below.refl w.heap.size w).drew
    simp only [T.size] at hs
    have z1 := T.del_size k l
    have z2 := T.del_size k r
    clear hb N
    by_cases h1 : k < k'
    · have HT : Hid (T.del k (.node l k' v' r) = T.bal (T.del k l) k' v' r) := Lib.hid (by simp only [T.del, if_pos h1])
      have hs1 : l.size ≤ 900000 := by omega
      have hs2 : (T.del k l).size + r.size ≤ 1000000 := by omega
      have HI := Lib.hid (fun (w' : World) (h : NdAt w' pl l) => ihl k h hs1)
      generalize T.del k (.node l k' v' r) = t at *
      generalize T.del k l = q at *
      clear ihl ihr z1 z2 hl hr d01
      go_enter Tryz.func101, Tryz.ntmps101
      go_wp2
      go_region_held3 (fun w' => w'.cell? ⟨b, 2, none⟩ = some (.pointer pl) ∧ w'.cell? ⟨b, 3, none⟩ = some (.pointer pr)) (with_reducible first | exact ⟨ND.cs.c2, ND.cs.c3⟩ | exact ⟨NA.cs.c2, NA.cs.c3⟩ | exact ⟨NC.cs.c2, NC.cs.c3⟩ | go_keep) (first
        | (go_at_call 101; (with_reducible refine (HI.out _ ND.left).mono ?_); rintro e w2 ⟨p1, rfl, hp1, hb⟩; have NA := ND.later hb; have BA := HB.out.trans hb; clear ND hb)
        | (go_at_call 114; (with_reducible refine (balance_any NA.cs.c0 NA.cs.c1 hp1 NA.right hs2).mono ?_); rintro e w2 ⟨p2, rfl, hp2, hb⟩; have NC := NA.later hb; have BC := BA.trans (hb.mono BA.size); clear NA hb))
      all_goals
        go_wp2
        go_ret
        exact ⟨p2, rfl, by rw [HT.out]; exact hp2, BC⟩
    · by_cases h2 : k' < k
      · have HT : Hid (T.del k (.node l k' v' r) = T.bal l k' v' (T.del k r)) := Lib.hid (by simp only [T.del, if_neg h1, if_pos h2])
        have hs1 : r.size ≤ 900000 := by omega
        have hs2 : l.size + (T.del k r).size ≤ 1000000 := by omega
        have HI := Lib.hid (fun (w' : World) (h : NdAt w' pr r) => ihr k h hs1)
        generalize T.del k (.node l k' v' r) = t at *
        generalize T.del k r = q at *
        clear ihl ihr z1 z2 hl hr d01
        go_enter Tryz.func101, Tryz.ntmps101
        go_wp2
        go_region_held3 (fun w' => w'.cell? ⟨b, 2, none⟩ = some (.pointer pl) ∧ w'.cell? ⟨b, 3, none⟩ = some (.pointer pr)) (with_reducible first | exact ⟨ND.cs.c2, ND.cs.c3⟩ | exact ⟨NA.cs.c2, NA.cs.c3⟩ | exact ⟨NC.cs.c2, NC.cs.c3⟩ | go_keep) (first
          | (go_at_call 101; (with_reducible refine (HI.out _ ND.right).mono ?_); rintro e w2 ⟨p1, rfl, hp1, hb⟩; have NA := ND.later hb; have BA := HB.out.trans hb; clear ND hb)
          | (go_at_call 114; (with_reducible refine (balance_any NA.cs.c0 NA.cs.c1 NA.left hp1 hs2).mono ?_); rintro e w2 ⟨p2, rfl, hp2, hb⟩; have NC := NA.later hb; have BC := BA.trans (hb.mono BA.size); clear NA hb))
        all_goals
          go_wp2
          go_ret
          exact ⟨p2, rfl, by rw [HT.out]; exact hp2, BC⟩
      · cases r with
        | nil =>
          obtain rfl : pr = none := hr
          have HT : Hid (T.del k (.node l k' v' .nil) = l) := Lib.hid (by simp only [T.del, if_neg h1, if_neg h2, if_pos])
          generalize T.del k (.node l k' v' .nil) = t at *
          have HL := Lib.hid hl
          clear ihl ihr z1 z2 hl d01 ND
          go_enter Tryz.func101, Tryz.ntmps101
          go_wp2_with fail
          go_ret
          exact ⟨_, rfl, by rw [HT.out]; exact HL.out, Below.refl _ _⟩
        | node rl rk rv rr =>
          obtain ⟨br, x1, x2, rfl, hbr, hx1, hx2⟩ := hr
          have hr : NdAt w (some ⟨br, 0, none⟩) (.node rl rk rv rr) := ⟨br, x1, x2, rfl, hbr, hx1, hx2⟩
          generalize hR : T.node rl rk rv rr = R at *
          have hRn : R ≠ .nil := by subst hR; simp
          obtain ⟨⟨fk, fv⟩, hf'⟩ : ∃ x, x = R.first := ⟨_, rfl⟩
          have hf := hf'.symm
          clear hf'
          have z3 := T.del_size fk R
          have HT : Hid (T.del k (.node l k' v' R) = T.bal l fk fv (T.del fk R)) := Lib.hid (by simp only [T.del, if_neg h1, if_neg h2, if_neg hRn, hf])
          have hs1 : R.size ≤ 900000 := by omega
          have hs2 : l.size + (T.del fk R).size ≤ 1000000 := by omega
          have hs3 : R.size ≤ 1000000 := by omega
          have HI := Lib.hid (fun (w' : World) (h : NdAt w' (some ⟨br, 0, none⟩) R) => ihr fk h hs1)
          have HAT : Hid (Calls Tryz.prog 105 #[.pointer (some ⟨br, 0, none⟩), .int .i64 0] w (RetN (some (fk, fv)) w)) := Lib.hid (by
            have := at_any hr 0 (by omega) hs3
            rwa [atL_zero, T.first_toL R hRn, hf] at this)
          generalize T.del k (.node l k' v' R) = t at *
          generalize T.del fk R = q at *
          clear ihl ihr z1 z2 z3 hl hr d01 hbr hx1 hx2 hR hf hRn
          go_enter Tryz.func101, Tryz.ntmps101
          go_wp2_with (go_at_call 105; (with_reducible refine HAT.out.mono ?_); rintro e w' ⟨q0, rfl, ⟨bn, rfl, g0, g1⟩, rfl⟩)
          have G0 : w.drew.cell? ⟨bn, 0, none⟩ = some (.int .i64 fk) := g0
          have G1 : w.drew.cell? ⟨bn, 1, none⟩ = some (.pointer fv) := g1
          go_region_held3 (fun w' => w'.cell? ⟨b, 2, none⟩ = some (.pointer pl) ∧ w'.cell? ⟨b, 3, none⟩ = some (.pointer (some ⟨br, 0, none⟩)) ∧ w'.cell? ⟨bn, 0, none⟩ = some (.int .i64 fk)) (with_reducible first | exact ⟨ND.cs.c2, ND.cs.c3, G0⟩ | exact ⟨NA.cs.c2, NA.cs.c3, GA0⟩ | exact ⟨NC.cs.c2, NC.cs.c3, GC0⟩ | go_keep) (first
            | (go_at_call 101; (with_reducible refine (HI.out _ ND.right).mono ?_); rintro e w2 ⟨p1, rfl, hp1, hb⟩; have NA := ND.later hb; have BA := HB.out.trans hb; have GA0 := ck hb G0; have GA1 := ck hb G1; clear ND hb G0 G1)
            | (go_at_call 114; (with_reducible refine (balance_any GA0 GA1 NA.left hp1 hs2).mono ?_); rintro e w2 ⟨p2, rfl, hp2, hb⟩; have NC := NA.later hb; have BC := BA.trans (hb.mono BA.size); have GC0 := ck hb GA0; clear NA hb))
          all_goals
            go_wp2
            go_ret
            exact ⟨p2, rfl, by rw [HT.out]; exact hp2, BC⟩
end Go.Proofs.YtohpaoleomcimaaGreat.cv
