/-
  Several texts in one: BrdS Mem Rng Held SpnW SpnM SpnP SpnR
-/
import Derived.Deep.AppendLies
import Derived.Deep.AppendSrc
import Derived.Deep.RegionHeld3
import Derived.Deep.QuietTactic
import Derived.BigQuiet
import Derived.WalkSmall
import Derived.OneCell
import Derived.Laws.OwnMore
import Derived.Deep.RegionLaw
import Derived.Deep.DeepCutAuto
import Derived.Deep.Light
import Derived.Deep.LoopGhost
import Derived.Deep.DeepFit
import Derived.Outline
import Derived.RangeFuncNested
import Derived.RangeFuncBound
import Derived.RangeFuncCalls
import Derived.RangeFuncLeaves
import Derived.OrdersIn
import Derived.Deep.RegionHeld
import Derived.Test.YtegbkeichkifnaaProg
import Derived.Laws.StructEq
import Derived.Deep.DrawnRows
import Derived.WalkSpells
import Derived.Test.YtegbkeichkifnaaM1
/-!   Package board: a board as numbers and a list.
-/
namespace Go.Proofs.Ytegbkeichkifnaa.bd
open Go.RowKit aid sp rn bv
set_option linter.unusedVariables false
set_option linter.unusedSimpArgs false

structure Bs where
  una : Int
  nxt : Int
  l : List Sp
structure BOk (s : Bs) : Prop where
  lo : 0 ≤ s.una
  le : s.una ≤ s.nxt
  hi : s.nxt ≤ 4611686018427387904
  buf : s.nxt - s.una ≤ 65536
  rn : Rn s.l
  ins : ∀ x ∈ s.l, s.una ≤ x.1 ∧ x.2 ≤ s.nxt
  len : s.l.length ≤ 4096
abbrev Bs.zero : Bs := ⟨0, 0, []⟩
theorem bok_zero : BOk Bs.zero := ⟨Int.le_refl _, Int.le_refl _, by decide, by decide, Rn.nil, fun x hx => by simp at hx, by simp⟩
def newS (u : Int) : Bs := ⟨u, u, []⟩
theorem bok_new {u : Int} (h0 : 0 ≤ u) (h1 : u ≤ 4611686018427387904) : BOk (newS u) := ⟨h0, Int.le_refl _, h1, by simp [newS], Rn.nil, fun x hx => by simp [newS] at hx, by simp [newS]⟩
theorem rn_in_bd {l : List Sp} {a c : Int} (h : Rn l) (hi : ∀ o, In l o → a ≤ o ∧ o < c) : ∀ y ∈ l, a ≤ y.1 ∧ y.2 ≤ c := fun y hy => by
  obtain ⟨k1, k2, k3⟩ := h.ok y hy
  have h1 := hi y.1 ⟨y, hy, Int.le_refl _, k2⟩
  have h2 := hi (y.2 - 1) ⟨y, hy, by omega, by omega⟩
  omega
theorem in_bd {l : List Sp} {a c : Int} (hi : ∀ y ∈ l, a ≤ y.1 ∧ y.2 ≤ c) : ∀ o, In l o → a ≤ o ∧ o < c := fun o ⟨y, hy, h1, h2⟩ => by
  have := hi y hy
  omega
theorem BOk.flight {s : Bs} (h : BOk s) : Ok (s.una, s.nxt) := ⟨h.lo, h.le, h.hi⟩
theorem BOk.all {s : Bs} (h : BOk s) : partsL s.l (s.una, s.nxt) = s.l := parts_in h.rn h.flight h.ins
theorem BOk.bytes {s : Bs} (h : BOk s) : withinL s.l (s.una, s.nxt) = bytesL s.l := by
  obtain ⟨_, _, h3, _⟩ := parts_spec (s.una, s.nxt) h.rn
  rw [← h3, h.all]
theorem rn_small : ∀ {l : List Sp} (a c : Int), Rn l → a ≤ c → (∀ y ∈ l, a ≤ y.1 ∧ y.2 ≤ c) → 0 ≤ bytesL l ∧ bytesL l ≤ c - a := by
  intro l
  induction l with
  | nil => intro a c _ h _; rw [bytes_nil]; omega
  | cons x l ih =>
    intro a c h hac hi
    have hx := hi x (by simp)
    have hk := h.head
    have hl := len_rok hk
    have h1 := ih x.2 c h.tail (by have := hk.2.1; omega) (fun y hy => ⟨by have := h.lt hy; omega, (hi y (List.mem_cons_of_mem _ hy)).2⟩)
    rw [bytes_cons]
    have := hk.2.1
    omega

/-! ### Sent, Ack, Sack -/
def sentN (s : Bs) (t : Int) : Int × Bs := if t < s.nxt ∨ 4611686018427387904 < t ∨ 65536 < t - s.una then (3, s) else (0, ⟨s.una, t, s.l⟩)
def ackN (s : Bs) (t : Int) : Int × Int × Bs :=
  if t < s.una then (0, 11, s) else if s.nxt < t then (0, 12, s) else (lenI (s.una, t) - withinL s.l (s.una, t), 0, ⟨t, s.nxt, refWo s.l (s.una, t)⟩)
def sackN (s : Bs) (y : Sp) : Int × Int × Bs :=
  if lenI y = 0 then (0, 3, s) else if s.nxt < y.2 then (0, 12, s) else
    if 4096 < (refWi s.l (fromP y s.una)).length then (0, 4, s) else (bytesL (refWi s.l (fromP y s.una)) - bytesL s.l, 0, ⟨s.una, s.nxt, refWi s.l (fromP y s.una)⟩)
theorem sent_ok {s : Bs} (h : BOk s) (t : Int) : BOk (sentN s t).2 := by
  unfold sentN
  split
  · exact h
  · have := h.le
    exact ⟨h.lo, by simp only; omega, by simp only; omega, by simp only; omega, h.rn, fun x hx => by have := h.ins x hx; simp only; omega, h.len⟩
theorem drop_len : ∀ (l : List Sp) (o : Int), (dropL l o).length ≤ l.length := by
  intro l o
  induction l with
  | nil => exact Nat.le_refl _
  | cons x l ih =>
    rw [drop_cons, List.length_append, List.length_cons]
    have : (ne (fromP x o)).length ≤ 1 := by unfold ne; split <;> simp
    omega
theorem BOk.drop {s : Bs} (h : BOk s) {t : Int} (h1 : s.una ≤ t) (h2 : t ≤ s.nxt) : dropL s.l t = refWo s.l (s.una, t) :=
  drop_eq h.rn.ok (fun x hx => (h.ins x hx).1) h.lo h1 (by have := h.hi; omega)
theorem wo_all {l : List Sp} {s : Sp} (hl : Rn l) (hs : Ok s) : Rn (refWo l s) ∧ ∀ o, In (refWo l s) o ↔ In l o ∧ ¬ (s.1 ≤ o ∧ o < s.2) := by
  unfold refWo
  by_cases c : lenI s = 0
  · rw [if_pos c]
    rw [len_ok hs] at c
    exact ⟨hl, fun o => ⟨fun h => ⟨h, by omega⟩, fun h => h.1⟩⟩
  · rw [if_neg c]
    obtain ⟨a, b, _⟩ := wo_spec hl (rok_of hs c)
    exact ⟨a, b⟩
theorem ack_ok {s : Bs} (h : BOk s) (t : Int) : BOk (ackN s t).2.2 := by
  unfold ackN
  split
  · exact h
  · split
    · exact h
    · rename_i h1 h2
      have hle := h.le; have hhi := h.hi; have hlo := h.lo; have hbf := h.buf
      have hk : Ok (s.una, t) := ⟨h.lo, by simp only; omega, by simp only; omega⟩
      obtain ⟨r1, r2⟩ := wo_all h.rn hk
      have hd := h.drop (t := t) (by omega) (by omega)
      refine ⟨by simp only; omega, by simp only; omega, hhi, by simp only; omega, r1, ?_, ?_⟩
      · refine rn_in_bd r1 (fun o ho => ?_)
        obtain ⟨i1, i2⟩ := (r2 o).1 ho
        have := in_bd h.ins o i1
        simp only at i2 ⊢
        omega
      · show (refWo s.l (s.una, t)).length ≤ 4096
        rw [← hd]
        exact Nat.le_trans (drop_len _ _) h.len
theorem from_ok' (y : Sp) (u : Int) (h : lenI (fromP y u) ≠ 0) : ROk (fromP y u) ∧ u ≤ (fromP y u).1 ∧ (fromP y u).2 ≤ y.2 := by
  have hk := len_pos_ok h
  refine ⟨hk, ?_⟩
  unfold fromP betw at h hk ⊢
  by_cases c : (fitP y.1 y.2).2 ≤ max (fitP y.1 y.2).1 u
  · rw [if_pos c] at h; exact absurd rfl h
  · rw [if_neg c] at hk ⊢
    simp only
    refine ⟨by omega, ?_⟩
    unfold fitP at c ⊢
    by_cases d : mayB y.1 y.2 = true
    · rw [if_pos d]; exact Int.le_refl _
    · rw [if_neg d] at c; simp only at c; omega
theorem sack_ok {s : Bs} (h : BOk s) (y : Sp) : BOk (sackN s y).2.2 := by
  unfold sackN
  split
  · exact h
  · split
    · exact h
    · split
      · exact h
      · rename_i h1 h2 h3
        refine ⟨h.lo, h.le, h.hi, h.buf, ?_, ?_, by simp only; omega⟩
        · by_cases c : lenI (fromP y s.una) = 0
          · show Rn (refWi _ _); unfold refWi; rw [if_pos c]; exact h.rn
          · exact (wi_spec h.rn (len_pos_ok c)).1
        · by_cases c : lenI (fromP y s.una) = 0
          · show ∀ x ∈ refWi _ _, _; unfold refWi; rw [if_pos c]; exact h.ins
          · obtain ⟨k1, k2, k3⟩ := from_ok' y s.una c
            obtain ⟨w1, w2, _⟩ := wi_spec h.rn k1
            refine rn_in_bd w1 (fun o ho => ?_)
            show s.una ≤ o ∧ o < s.nxt
            rcases (w2 o).1 ho with q | q
            · exact in_bd h.ins o q
            · omega
theorem len00 : lenI (0, 0) = 0 := by decide
theorem ne00 : ne (0, 0) = [] := by unfold ne; rw [if_pos len00]
theorem rn_nil_of {l : List Sp} (h : Rn l) (hb : bytesL l = 0) : l = [] := by
  cases l with
  | nil => rfl
  | cons x l =>
    exfalso
    rw [bytes_cons, len_rok h.head] at hb
    have := h.tail.bytes.1
    have := h.head.2.1
    omega
/-- what is in already changes nothing -/
theorem wi_same {l : List Sp} {x : Sp} (h : Rn l) (he : lenI x - withinL l x = 0) : refWi l x = l := by
  by_cases c : lenI x = 0
  · unfold refWi; rw [if_pos c]
  · have hx := len_pos_ok c
    obtain ⟨g1, g2, g3, g4⟩ := gaps_all x h
    rw [he] at g4
    rw [g2] at g1
    have hg := rn_nil_of g1 g4
    obtain ⟨w1, w2, _⟩ := wi_spec h hx
    refine Rn.ext w1 h (fun o => ?_)
    rw [w2]
    refine ⟨fun q => ?_, fun q => .inl q⟩
    rcases q with q | q
    · exact q
    · rcases Classical.em (In l o) with e | e
      · exact e
      · have := (g3 o).2 ⟨by rw [fit_of hx.ok]; exact q, e⟩
        rw [hg] at this
        exact absurd this In.nil
/-- how many are missing -/
def missN (l : List Sp) (x : Sp) : Int := lenI x - withinL l x
theorem wi_miss {l : List Sp} {x : Sp} (h : Rn l) : bytesL (refWi l x) - bytesL l = missN l x := by
  by_cases c : lenI x = 0
  · unfold refWi missN
    rw [if_pos c, c]
    have : withinL l x = 0 := by
      obtain ⟨_, _, h3, _⟩ := parts_spec x h
      rw [← h3, parts_none h.ok c]; rfl
    omega
  · exact (wi_spec h (len_pos_ok c)).2.2
theorem within_lt {l : List Sp} (h : Rn l) (x : Sp) : 0 ≤ withinL l x ∧ withinL l x ≤ lenI x := by
  have h1 := (gaps_all x h).2.2.2
  have h2 := (gaps_all x h).1
  have h3 := (gaps_all x h).2.1
  rw [h3] at h2
  have := h2.bytes.1
  have := (within_le x h.ok).1
  omega
/-! ### High, Holes, Has -/
def highN (s : Bs) : Int := (s.l.getLast?.map (fun x => x.2)).getD s.una
def holesC : List Sp → Int → List Sp
  | [], _ => []
  | x :: l, f => ne (f, x.1) ++ holesC l x.2
theorem holes_eq : ∀ {l : List Sp} {f h : Int}, Rn l → 0 ≤ f → (∀ x ∈ l, f ≤ x.1) → h ≤ 4611686018427387904 → h = (l.getLast?.map (fun x => x.2)).getD f → holesC l f = gapsC l (f, h) := by
  intro l
  induction l with
  | nil =>
    intro f h _ _ _ _ e
    have e : h = f := e
    subst e
    show [] = ne (h, h)
    unfold ne
    rw [if_pos]
    unfold lenI fitP
    split <;> simp
  | cons x l ih =>
    intro f h hr h0 hf h1 e
    have hx := hr.head
    have hfx := hf x (by simp)
    have e2 : h = (l.getLast?.map (fun x => x.2)).getD x.2 := by
      rw [e]
      cases l with
      | nil => rfl
      | cons y r => rw [List.getLast?_cons_cons]; cases hq : (y :: r).getLast? with
        | none => simp at hq
        | some z => rfl
    have hxh : x.2 ≤ h := by
      rw [e2]
      cases hq : l.getLast? with
      | none => exact Int.le_refl _
      | some z =>
        have hz := List.mem_of_getLast? hq
        have := hr.lt hz
        have := (hr.ok z (List.mem_cons_of_mem _ hz)).2.1
        show x.2 ≤ z.2
        omega
    have hk : Ok (f, h) := ⟨h0, by simp only; have := hx.2.1; omega, h1⟩
    show ne (f, x.1) ++ holesC l x.2 = ne (belowP (f, h) x.1) ++ gapsC l (fromP (f, h) x.2)
    have a : ne (f, x.1) = ne (belowP (f, h) x.1) := by
      rw [below_rok hk]
      unfold betw
      simp only
      have hm : min h x.1 = x.1 := by have := hx.2.1; omega
      rw [hm]
      by_cases c : x.1 ≤ f
      · rw [if_pos c]
        have : x.1 = f := by omega
        rw [ne00]
        unfold ne
        rw [if_pos (by unfold lenI fitP; split <;> simp <;> omega)]
      · rw [if_neg c]
    rw [a]
    congr 1
    by_cases c : h ≤ x.2
    · have hh : h = x.2 := by omega
      have hl : l = [] := by
        cases l with
        | nil => rfl
        | cons y r =>
          exfalso
          have hz : ∃ z, (y :: r).getLast? = some z := by cases hq : (y :: r).getLast? with
            | none => simp at hq
            | some z => exact ⟨z, rfl⟩
          obtain ⟨z, hz⟩ := hz
          rw [hz] at e2
          have e2 : h = z.2 := e2
          have hzm := List.mem_of_getLast? hz
          have := hr.lt hzm
          have := (hr.ok z (List.mem_cons_of_mem _ hzm)).2.1
          omega
      subst hl
      show [] = ne (fromP (f, h) x.2)
      have e0 : fromP (f, h) x.2 = (0, 0) := by
        rw [from_rok hk]
        unfold betw
        rw [if_pos (by show h ≤ max f x.2; omega)]
      rw [e0, ne00]
    · have : fromP (f, h) x.2 = (x.2, h) := by
        rw [from_rok hk]
        unfold betw
        simp only
        rw [if_neg (by have := hx.2.1; omega)]
        exact Prod.ext (by simp only; have := hx.2.1; omega) rfl
      rw [this]
      exact ih hr.tail (by have := hx.1; have := hx.2.1; omega) (fun y hy => by have := hr.lt hy; omega) h1 e2
theorem high_bd {s : Bs} (h : BOk s) : s.una ≤ highN s ∧ highN s ≤ s.nxt := by
  unfold highN
  cases hq : s.l.getLast? with
  | none => exact ⟨Int.le_refl _, h.le⟩
  | some z =>
    have hz := List.mem_of_getLast? hq
    have := h.ins z hz
    have := (h.rn.ok z hz).2.1
    exact ⟨by show s.una ≤ z.2; omega, by show z.2 ≤ s.nxt; omega⟩
theorem BOk.holes {s : Bs} (h : BOk s) : holesC s.l s.una = gapsL s.l (s.una, highN s) := by
  obtain ⟨b1, b2⟩ := high_bd h
  have hk : Ok (s.una, highN s) := ⟨h.lo, b1, by have := h.hi; simp only; omega⟩
  rw [holes_eq (h := highN s) h.rn h.lo (fun x hx => (h.ins x hx).1) hk.2.2 rfl, ← (gaps_all (s.una, highN s) h.rn).2.1]
  congr 1
  refine (parts_in h.rn hk (fun x hx => ⟨(h.ins x hx).1, ?_⟩)).symm
  show x.2 ≤ highN s
  unfold highN
  cases hq : s.l.getLast? with
  | none =>
    rw [List.getLast?_eq_none_iff] at hq
    rw [hq] at hx
    simp at hx
  | some z =>
    show x.2 ≤ z.2
    have hz := List.mem_of_getLast? hq
    rcases Int.lt_or_le z.1 x.1 with c | c
    · exfalso
      obtain ⟨r, e⟩ := List.getLast?_eq_some_iff.1 hq
      have hr := h.rn
      rw [e] at hr hx
      rcases List.mem_append.1 hx with q | q
      · have := (List.pairwise_append.1 hr.up).2.2 x q z (by simp)
        have := (hr.left.ok x q).2.1
        omega
      · simp at q; subst q; omega
    · rcases Int.lt_or_eq_of_le c with d | d
      · have := Rn.apart h.rn x hx z hz d
        have := (h.rn.ok z hz).2.1
        omega
      · obtain ⟨r, e⟩ := List.getLast?_eq_some_iff.1 hq
        have hr := h.rn
        rw [e] at hr hx
        rcases List.mem_append.1 hx with q | q
        · have := (List.pairwise_append.1 hr.up).2.2 x q z (by simp)
          have := (hr.left.ok x q).2.1
          omega
        · simp at q; subst q; exact Int.le_refl _
def hasN (s : Bs) (y : Sp) : Bool := decide (missN s.l (fromP y s.una) = 0)
end Go.Proofs.Ytegbkeichkifnaa.bd
/-!   Memory, for walks: what stays as it was ('Kept'), slices of integers that are read ('SlA'), append of whatever source onto a row of one's own. Imports nothing of the program.
-/
namespace Go.Proofs.Ytegbkeichkifnaa.mem
open Go.RowKit aid
set_option linter.unusedVariables false

/-! ### What stays as it was: all blocks but those of a list -/
structure Kept (S : List Nat) (w w' : World) : Prop where
  os : w'.os = w.os
  tape : w'.tape = w.tape
  output : w'.output = w.output
  size : w.heap.size ≤ w'.heap.size
  block : ∀ k, k < w.heap.size → k ∉ S → w'.heap[k]? = w.heap[k]?

theorem Kept.refl (S : List Nat) (w : World) : Kept S w w := ⟨rfl, rfl, rfl, Nat.le_refl _, fun _ _ _ => rfl⟩
theorem Kept.trans {S S' : List Nat} {a b c : World} (h : Kept S a b) (k : Kept S' b c) (hs : ∀ x ∈ S', x ∈ S ∨ a.heap.size ≤ x) : Kept S a c :=
  ⟨k.os.trans h.os, k.tape.trans h.tape, k.output.trans h.output, Nat.le_trans h.size k.size, fun x hx hn =>
    (k.block x (Nat.lt_of_lt_of_le hx h.size) (fun e => by rcases hs x e with e | e; exact hn e; omega)).trans (h.block x hx hn)⟩
theorem Kept.mono {S S' : List Nat} {a b : World} (h : Kept S a b) (hs : ∀ x ∈ S, x ∈ S' ∨ a.heap.size ≤ x) : Kept S' a b :=
  ⟨h.os, h.tape, h.output, h.size, fun x hx hn => h.block x hx (fun e => by rcases hs x e with e | e; exact hn e; omega)⟩
theorem Kept.drew {S : List Nat} {a w : World} (h : Kept S a w) : Kept S a w.drew := ⟨h.os, h.tape, h.output, h.size, h.block⟩
theorem Kept.drewN {S : List Nat} {a w : World} (h : Kept S a w) (n : Nat) : Kept S a (w.drewN n) := ⟨h.os, h.tape, h.output, h.size, h.block⟩
theorem Kept.alloc {S : List Nat} {a w : World} (h : Kept S a w) (o : Obj) : Kept S a (w.alloc o) :=
  ⟨h.os, h.tape, h.output, by simp; exact Nat.le_succ_of_le h.size, fun k hk hn => (Below.heap_alloc w o k (Nat.lt_of_lt_of_le hk h.size)).trans (h.block k hk hn)⟩
theorem Kept.setCell {S : List Nat} {a w : World} (h : Kept S a w) {p : Addr} (hp : p.block ∈ S ∨ a.heap.size ≤ p.block) (u : Value) : Kept S a (w.setCell p u) :=
  ⟨h.os, h.tape, h.output, by simpa using h.size, fun k hk hn => (Below.heap_setCell w p u k (fun e => by subst e; rcases hp with e | e; exact hn e; omega)).trans (h.block k hk hn)⟩
theorem Kept.grown {S : List Nat} {a w w' : World} {row : Option Nat} (h : Kept S a w) (hg : w.grownBy w' row) (hr : ∀ k, row = some k → k ∈ S ∨ a.heap.size ≤ k) : Kept S a w' :=
  ⟨hg.os.trans h.os, hg.tape.trans h.tape, hg.output.trans h.output, Nat.le_trans h.size hg.size, fun k hk hn =>
    (hg.block k (Nat.lt_of_lt_of_le hk h.size) (fun e => by rcases hr k e.symm with e | e; exact hn e; omega)).trans (h.block k hk hn)⟩
theorem Kept.of_below {B : Nat} {w w' : World} (h : Below B w w') (hB : w.heap.size ≤ B) (S : List Nat) : Kept S w w' :=
  ⟨h.os, h.tape, h.output, h.size, fun k hk _ => h.block k (by omega)⟩
theorem Kept.below {S : List Nat} {B : Nat} {w w' : World} (h : Kept S w w') (hS : ∀ k ∈ S, B ≤ k) (hB : B ≤ w.heap.size) : Below B w w' :=
  ⟨h.os, h.tape, h.output, h.size, fun k hk => h.block k (by omega) (fun e => by have := hS k e; omega)⟩
theorem Kept.cell {S : List Nat} {w w' : World} (h : Kept S w w') {p : Addr} {v : Value} (hp : p.block ∉ S) (hc : w.cell? p = some v) : w'.cell? p = some v :=
  (World.cell?_of_block (h.block p.block (World.block_lt_of_cell? w p hc) hp)).trans hc
theorem Kept.frozen {S : List Nat} {w w' : World} (h : Kept S w w') {p : Addr} {v : Value} (hp : p.block ∉ S) (hc : w.cell? p = some v) : w'.frozen? p = w.frozen? p :=
  World.frozen?_of_block (h.block p.block (World.block_lt_of_cell? w p hc) hp)
theorem Kept.heap {S : List Nat} {w w' : World} (h : Kept S w w') {k : Nat} {o : Obj} (hp : k ∉ S) (hc : w.heap[k]? = some o) : w'.heap[k]? = some o :=
  (h.block k (lt_of_block hc) hp).trans hc
theorem Kept.own {S : List Nat} {w w' : World} (h : Kept S w w') {base : Nat} {e : TypeId} {size : Nat} {v : Value} {n : Nat} {xs : List Value} (hp : ∀ k, v.ownBlock = some k → k ∉ S) (ho : w.ownsRow base e size v n xs) : w'.ownsRow base e size v n xs := by
  refine ⟨ho.1, ?_⟩
  rcases ho.2 with hn | ⟨g, cap, cur, rfl, hb, hgg, rest⟩
  · exact .inl hn
  · exact .inr ⟨g, cap, cur, rfl, hb, h.heap (hp g rfl) hgg, rest⟩
theorem own_base {w : World} {base base' : Nat} {e : TypeId} {size : Nat} {v : Value} {n : Nat} {xs : List Value} (ho : w.ownsRow base e size v n xs) (hb : ∀ k, v.ownBlock = some k → base' ≤ k) : w.ownsRow base' e size v n xs := by
  refine ⟨ho.1, ?_⟩
  rcases ho.2 with hn | ⟨g, cap, cur, rfl, _, hgg, rest⟩
  · exact .inl hn
  · exact .inr ⟨g, cap, cur, rfl, hb g rfl, hgg, rest⟩

theorem set_other {w : World} {a b : Addr} {v : Value} (h : a ≠ b) : (w.setCell a v).cell? b = w.cell? b := by apply World.cell?_setCell_other; exact h
theorem set_same {w : World} {a : Addr} {v u : Value} (h : w.cell? a = some u) : (w.setCell a v).cell? a = some v := by apply World.cell?_setCell_same; exact h

/-! ### A slice of integers that is read -/
def ints (k : IntKind) (l : List Int) : List Value := l.map (Value.int k)
structure SlA (k : IntKind) (w : World) (a : Option Addr) (n cap : Nat) (l : List Int) : Prop where
  len : l.length = n
  le : n ≤ cap
  most : cap ≤ maxLen
  nil : a = none → cap = 0
  cells : 0 < cap → ∃ b off, a = some ⟨b, off, none⟩ ∧ ∀ i, i < n → w.cell? ⟨b, off + i, none⟩ = some (.int k (l.getD i 0))

theorem SlA.keep {k : IntKind} {w w' : World} {a : Option Addr} {n cap : Nat} {l : List Int} (h : SlA k w a n cap l) {S : List Nat} (hk : Kept S w w') (hd : ∀ x, a = some x → x.block ∉ S) : SlA k w' a n cap l :=
  ⟨h.len, h.le, h.most, h.nil, fun h0 => by
    obtain ⟨b, off, rfl, hc⟩ := h.cells h0
    exact ⟨b, off, rfl, fun i hi => hk.cell (p := ⟨b, off + i, none⟩) (hd ⟨b, off, none⟩ rfl) (hc i hi)⟩⟩
theorem SlA.keepIf {k : IntKind} {w w' : World} {a : Option Addr} {n cap : Nat} {l : List Int} (h : SlA k w a n cap l) {S : List Nat} (hk : Kept S w w') (hd : ∀ x, a = some x → 0 < cap → x.block ∉ S) : SlA k w' a n cap l :=
  ⟨h.len, h.le, h.most, h.nil, fun h0 => by
    obtain ⟨b, off, rfl, hc⟩ := h.cells h0
    exact ⟨b, off, rfl, fun i hi => hk.cell (p := ⟨b, off + i, none⟩) (hd ⟨b, off, none⟩ rfl h0) (hc i hi)⟩⟩
theorem SlA.later {k : IntKind} {w w' : World} {a : Option Addr} {n cap : Nat} {l : List Int} (h : SlA k w a n cap l) (hk : Below w.heap.size w w') : SlA k w' a n cap l :=
  h.keep (Kept.of_below hk (Nat.le_refl _) []) (fun _ _ => by simp)

theorem SlA.drew {k : IntKind} {w : World} {a : Option Addr} {n cap : Nat} {l : List Int} (h : SlA k w a n cap l) : SlA k w.drew a n cap l := h.keep (Kept.refl [] w).drew (fun _ _ => by simp)
theorem SlA.drewN {k : IntKind} {w : World} {a : Option Addr} {n cap : Nat} {l : List Int} (h : SlA k w a n cap l) (q : Nat) : SlA k (w.drewN q) a n cap l := h.keep ((Kept.refl [] w).drewN q) (fun _ _ => by simp)
theorem getD_map_some {k : IntKind} {l : List Int} {j : Nat} (hj : j < l.length) : (l.map (Value.int k))[j]? = some (Value.int k (l.getD j 0)) := by simp [List.getD, hj]

/-- what it yields as an append's second argument -/
theorem SlA.src {P : Program} {k : IntKind} {w : World} {a : Option Addr} {n cap : Nat} {l : List Int} (h : SlA k w a n cap l) {t e : TypeId} (ht : P.underlying t = some (.slice e)) :
    Src P 1 t (.slice a n cap) n (ints k l) w := by
  have h1 : ∀ u ∈ ints k l, u.oneCell' = true := by
    intro u hu
    obtain ⟨_, _, rfl⟩ := List.mem_map.1 hu
    rfl
  have hl : (ints k l).length = n * 1 := by simp [ints, h.len]
  cases a with
  | none =>
    have h0 : cap = 0 := h.nil rfl
    have hle := h.le
    have hn : n = 0 := by omega
    have hll := h.len
    obtain rfl : l = [] := List.eq_nil_of_length_eq_zero (by omega)
    subst hn
    exact Src.ofNil w ht cap
  | some x =>
    refine Src.ofSlice w ht x n cap _ hl ?_ h1
    intro j u hu
    have hj : j < l.length := by simpa [ints] using (List.getElem?_eq_some_iff.1 hu).1
    rw [ints, getD_map_some hj] at hu
    obtain ⟨b, off, hx, hc⟩ := h.cells (by have := h.len; have := h.le; omega)
    obtain rfl : x = ⟨b, off, none⟩ := by injection hx
    have hadd : (⟨b, off, none⟩ : Addr).add j = ⟨b, off + j, none⟩ := by unfold Addr.add; split <;> simp_all
    rw [hadd, hc j (by have := h.len; omega)]
    exact hu

/-- a row of one's own is such a slice -/
theorem sl_of_own {w : World} {base : Nat} {e : TypeId} {k : IntKind} {v : Value} {n : Nat} {l : List Int} (h : w.ownsRow base e 1 v n (ints k l)) :
    ∃ a cap, v = .slice a n cap ∧ SlA k w a n cap l ∧ ∀ x, a = some x → v.ownBlock = some x.block := by
  have hl : l.length = n := by simpa [ints] using h.1
  rcases h.2 with ⟨rfl, rfl⟩ | ⟨g, cap, cur, rfl, hb, hg, hn, hm, hc, ht⟩
  · exact ⟨none, 0, rfl, ⟨hl, Nat.le_refl _, by unfold maxLen; omega, fun _ => rfl, fun h => by omega⟩, fun _ h => by cases h⟩
  · refine ⟨some ⟨g, 0, none⟩, cap, rfl, ⟨hl, hn, hm, (fun h => by cases h), fun _ => ⟨g, 0, rfl, fun i hi => ?_⟩⟩, fun x hx => by injection hx with hx; subst hx; rfl⟩
    rw [cell_of_row w g _ cur e (0, 0) hg]
    have : (ints k l)[i]? = cur[0 + i]? := by rw [← ht, List.getElem?_take]; simp; intro h; omega
    rw [← this, ints, getD_map_some (by omega)]

/-- a piece of such a slice, from its head on -/
theorem SlA.take {k : IntKind} {w : World} {a : Option Addr} {n cap : Nat} {l : List Int} (h : SlA k w a n cap l) (m : Nat) (hm : m ≤ n) : SlA k w a m cap (l.take m) :=
  ⟨by simp [h.len, hm], Nat.le_trans hm h.le, h.most, h.nil, fun h0 => by
    obtain ⟨b, off, rfl, hc⟩ := h.cells h0
    refine ⟨b, off, rfl, fun i hi => ?_⟩
    rw [hc i (by omega)]
    simp [List.getD, hi]⟩
/-- where the capacity ends at once the address stays; else it is moved -/
theorem SlA.drop_end {k : IntKind} {w : World} {a : Option Addr} {n cap : Nat} {l : List Int} (h : SlA k w a n cap l) (m : Nat) (hm : m ≤ n) (he : cap = m) : SlA k w a (n - m) 0 (l.drop m) :=
  ⟨by simp [h.len], (by have := h.le; omega), by simp [maxLen], fun _ => rfl, fun h0 => by omega⟩
theorem SlA.drop {k : IntKind} {w : World} {b off : Nat} {n cap : Nat} {l : List Int} (h : SlA k w (some ⟨b, off, none⟩) n cap l) (m : Nat) (hm : m ≤ n) (he : cap ≠ m) : SlA k w (some ⟨b, off + m, none⟩) (n - m) (cap - m) (l.drop m) :=
  ⟨by simp [h.len], (by have := h.le; omega), (by have := h.most; omega), (fun h => by cases h), fun h0 => by
    obtain ⟨b', off', hb, hc⟩ := h.cells (by omega)
    injection hb with hb
    injection hb with hb1 hb2
    subst hb1 hb2
    refine ⟨b, off + m, rfl, fun i hi => ?_⟩
    rw [Nat.add_assoc, hc (m + i) (by omega)]
    simp [List.getD]⟩

theorem own_form {w : World} {base : Nat} {e : TypeId} {size : Nat} {v : Value} {n : Nat} {xs : List Value} (h : w.ownsRow base e size v n xs) : ∃ a cap, v = .slice a n cap := by
  rcases h.2 with ⟨rfl, rfl⟩ | ⟨g, cap, cur, rfl, _⟩
  · exact ⟨none, 0, rfl⟩
  · exact ⟨_, cap, rfl⟩
theorem ints_append (k : IntKind) (l r : List Int) : ints k (l ++ r) = ints k l ++ ints k r := List.map_append

/-! ### append, of whatever source, onto a row of one's own -/
section
variable {P : Program} (w : World)

theorem run_append_any (t tx ty : TypeId) (base : Nat) (e : TypeId) (i : TypeInfo) (z : Value) (bytes : Nat) (ht : P.underlying t = some (.slice e)) (hi : P.info? e = some i) (hz : i.zero = some z)
    (hsize : i.size = 1) (hby : i.bytes = bytes) (hzs : z.cells.size = 1)
    (v : Value) (n : Nat) (xs : List Value) (hown : w.ownsRow base e 1 v n xs) (x : Value) (m : Nat) (news : List Value) (hs : Src P 1 tx x m news w)
    (h63 : n + m ≤ maxLen) (hbytes : (n + m) * bytes ≤ 140737488355328) (hbase : base ≤ w.heap.size) :
    ∃ v' w', (Builtin.append_ #[t, tx] ty #[v, x]).run P w = .ok v' w' ∧ w'.ownsRow base e 1 v' (n + m) (xs ++ news) ∧ w.grownBy w' v.ownBlock ∧
      (v'.ownBlock = v.ownBlock ∨ v'.ownBlock = some w.heap.size) := by
  have hnl : news.length = m := by simpa using hs.newsLen
  have hxl : xs.length = n := by simpa using hown.1
  have h63' : ((n + m : Nat) : Int) ≤ 9223372036854775807 := by unfold maxLen at h63; omega
  have hs' : Src P i.size tx x m news w := by rw [hsize]; exact hs
  have grow : ∀ (b : Option Addr) (cap : Nat), cap < n + m → (Builtin.firstCells i.size n (.slice b n cap)).run P w.drew = .ok xs.toArray w.drew →
      ∃ v' w', (Builtin.append_ #[t, tx] ty #[.slice b n cap, x]).run P w = .ok v' w' ∧ w'.ownsRow base e 1 v' (n + m) (xs ++ news) ∧ w.grownBy w' (Value.ownBlock (.slice b n cap)) ∧
      (v'.ownBlock = Value.ownBlock (.slice b n cap) ∨ v'.ownBlock = some w.heap.size) := by
    intro b cap hlt hold
    have hr := run_append_grow_src (P := P) w t tx ty e i z ht hi hz b n cap xs hold x m news hs' hlt h63' (by rw [hby]; exact growslice_fits (by omega) hbytes)
    refine ⟨_, _, hr, ⟨by simp [hxl, hnl], .inr ⟨w.heap.size, _, _, rfl, hbase, heap_alloc_new w.drew _, grownCap_ge _ _ _ _, grownCap_le_maxLen _ _ _ _ h63, ?_, ?_⟩⟩, ⟨rfl, rfl, rfl, by simp, fun k hk _ => Below.heap_alloc w.drew _ k hk⟩, .inr rfl⟩
    · have hge := grownCap_ge w (n + m) cap e
      simp only [Array.size_append, List.size_toArray, size_zeroCells, hzs, List.length_append, hxl, hnl]
      omega
    · simp only [Array.toList_append, Nat.mul_one]
      rw [show n + m = (xs ++ news).length from by simp [hxl, hnl]]
      exact List.take_left
  rcases hown.2 with ⟨rfl, rfl⟩ | ⟨g, cap, cur, rfl, hbg, hg, hnc, hcm, hcs, htake⟩
  · obtain rfl : xs = [] := List.eq_nil_of_length_eq_zero (by omega)
    by_cases hm : m = 0
    · subst hm
      obtain rfl : news = [] := List.eq_nil_of_length_eq_zero (by omega)
      refine ⟨.slice none 0 0, w, ?_, World.ownsRow_nil w base e 1, ⟨rfl, rfl, rfl, Nat.le_refl _, fun _ _ _ => rfl⟩, .inl rfl⟩
      have hc := hs'.cells
      rcases hs.kind with ⟨e', hk⟩ | hk <;> simp [Builtin.append_, run_underlying ht, run_underlying hk, sizeOf, typeInfo, hi, hs.len, hc]
    · exact grow none 0 (by omega) (run_firstCells_none w.drew i.size 0 0 0)
  · by_cases hroom : n + m ≤ cap
    · have hcell : ∀ j, w.cell? ⟨g, j, none⟩ = cur[j]? := fun j => cell_of_row w g j cur e (0, 0) hg
      have hfr : ∀ j, w.frozen? ⟨g, j, none⟩ = false := fun j => by simp [World.frozen?, hg]
      have hr := run_append_room_src (P := P) w t tx ty e i ht hi g 0 n cap x m news hs' hroom
        (fun j hj => by rw [hcell, hsize]; rw [Array.getElem?_eq_getElem (by rw [hcs]; omega)]; rfl) (fun j hj => hfr _)
      have hst := hr
      rw [hsize] at hr
      simp only [Nat.zero_add, Nat.mul_one] at hr
      have hsr : w.setCells g n news = w.setRow g (cur.toList.take n ++ news ++ cur.toList.drop (n + news.length)).toArray := by
        have h1 := run_append_room_src (P := P) w t tx ty e i ht hi g 0 n cap x m news hs' hroom
          (fun j hj => by rw [hcell, hsize]; rw [Array.getElem?_eq_getElem (by rw [hcs]; omega)]; rfl) (fun j hj => hfr _)
        have h2 := run_storeCells_at P g n e news 0 cur w hg (by omega) hs.one
        have h3 := run_storeCells_cells (P := P) g n news 0 w (fun j hj => by rw [hcell]; rw [Array.getElem?_eq_getElem (by rw [hcs]; omega)]; rfl) (fun j hj => hfr _) hs.one
        simp only [Nat.add_zero] at h2 h3
        rw [h2] at h3
        injection h3 with _ h3
        exact h3.symm
      rw [hsr] at hr
      refine ⟨_, _, hr, ⟨by simp [hxl, hnl], .inr ⟨g, cap, _, rfl, hbg, setRow_heap w g cur _ e _ hg, hroom, hcm, ?_, ?_⟩⟩, ⟨rfl, rfl, rfl, by simp, fun k _ hk => setRow_other w g k _ (fun e => hk (by simp [Value.ownBlock, e]))⟩, .inl rfl⟩
      · simp only [List.size_toArray, List.length_append, List.length_take, List.length_drop, Array.length_toList]
        omega
      · have ht' : cur.toList.take n = xs := by simpa using htake
        simp only [Nat.mul_one]
        rw [ht', show n + m = (xs ++ news).length from by simp [hxl, hnl]]
        exact List.take_left
    · refine grow (some ⟨g, 0, none⟩) cap (by omega) ?_
      exact run_firstCells_some w.drew i.size n ⟨g, 0, none⟩ n cap xs (by rw [hxl, hsize]; omega) (by have := hown.cells (g := g) rfl; simpa using this)

theorem wp_append_any {o : Oper} {a : Act} {K : Act → World → Prop} {Q : Exit → Act → World → Prop} (s x : Operand) (t tx : TypeId)
    (ho : o.op = .call { callee := .builtin .append, args := #[s, x], argTypes := #[t, tx] })
    (base : Nat) (e : TypeId) (i : TypeInfo) (z : Value) (bytes : Nat) (ht : P.underlying t = some (.slice e)) (hi : P.info? e = some i) (hz : i.zero = some z)
    (hsize : i.size = 1) (hby : i.bytes = bytes) (hzs : z.cells.size = 1)
    (v : Value) (n : Nat) (xs : List Value) (hsv : a.eval s = v) (hown : w.ownsRow base e 1 v n xs) (xv : Value) (hx : a.eval x = xv) (m : Nat) (news : List Value) (hs : Src P 1 tx xv m news w)
    (h63 : n + m ≤ maxLen) (hbytes : (n + m) * bytes ≤ 140737488355328) (hbase : base ≤ w.heap.size)
    (h : ∀ a' cap' w', w'.ownsRow base e 1 (.slice a' (n + m) cap') (n + m) (xs ++ news) → w.grownBy w' v.ownBlock → (Value.ownBlock (.slice a' (n + m) cap') = v.ownBlock ∨ Value.ownBlock (.slice a' (n + m) cap') = some w.heap.size) → K (a.put o.dst (.slice a' (n + m) cap')) w') : o.wp P a w K Q := by
  obtain ⟨v', w', hr, h2, h3, h4⟩ := run_append_any (P := P) w t tx o.type base e i z bytes ht hi hz hsize hby hzs v n xs hown xv m news hs h63 hbytes hbase
  unfold Oper.wp execOp
  obtain ⟨a', cap', rfl⟩ := own_form h2
  simp only [ho, resolve, invoke, builtin, Sem.run_bind, Sem.run_pure, Result.andThen_ok, List.map_toArray, List.map_cons, List.map_nil, hsv, hx, hr]
  exact h a' cap' w' h2 h3 h4

theorem wpList_append_any {ops : Array Oper} {rest : List Oper} {o : Oper} {a : Act} {Q : Exit → Act → World → Prop} (hgd : o.guard = none) (s x : Operand) (t tx : TypeId)
    (ho : o.op = .call { callee := .builtin .append, args := #[s, x], argTypes := #[t, tx] })
    (base : Nat) (e : TypeId) (i : TypeInfo) (z : Value) (bytes : Nat) (ht : P.underlying t = some (.slice e)) (hi : P.info? e = some i) (hz : i.zero = some z)
    (hsize : i.size = 1) (hby : i.bytes = bytes) (hzs : z.cells.size = 1)
    (v : Value) (n : Nat) (xs : List Value) (hsv : a.eval s = v) (hown : w.ownsRow base e 1 v n xs) (xv : Value) (hx : a.eval x = xv) (m : Nat) (news : List Value) (hs : Src P 1 tx xv m news w)
    (h63 : n + m ≤ maxLen) (hbytes : (n + m) * bytes ≤ 140737488355328) (hbase : base ≤ w.heap.size)
    (h : ∀ a' cap' w', w'.ownsRow base e 1 (.slice a' (n + m) cap') (n + m) (xs ++ news) → w.grownBy w' v.ownBlock → (Value.ownBlock (.slice a' (n + m) cap') = v.ownBlock ∨ Value.ownBlock (.slice a' (n + m) cap') = some w.heap.size) → wpList P ops Q rest (a.put o.dst (.slice a' (n + m) cap')) w') : wpList P ops Q (o :: rest) a w :=
  wpList_plain hgd fun _ hK => wp_append_any w s x t tx ho base e i z bytes ht hi hz hsize hby hzs v n xs hsv hown xv hx m news hs h63 hbytes hbase fun a' cap' w' h2 h3 h4 => hK _ _ (h a' cap' w' h2 h3 h4)

theorem step_append_any {ops : Array Oper} {o : Oper} {a : Act} {K : Act → World → Prop} {Q : Exit → Act → World → Prop} {E : Prop} (hgd : o.guard = none) (s x : Operand) (t tx : TypeId)
    (ho : o.op = .call { callee := .builtin .append, args := #[s, x], argTypes := #[t, tx] })
    (base : Nat) (e : TypeId) (i : TypeInfo) (z : Value) (bytes : Nat) (ht : P.underlying t = some (.slice e)) (hi : P.info? e = some i) (hz : i.zero = some z)
    (hsize : i.size = 1) (hby : i.bytes = bytes) (hzs : z.cells.size = 1)
    (v : Value) (n : Nat) (xs : List Value) (hsv : a.eval s = v) (hown : w.ownsRow base e 1 v n xs) (xv : Value) (hx : a.eval x = xv) (m : Nat) (news : List Value) (hs : Src P 1 tx xv m news w)
    (h63 : n + m ≤ maxLen) (hbytes : (n + m) * bytes ≤ 140737488355328) (hbase : base ≤ w.heap.size)
    (h : ∀ a' cap' w', w'.ownsRow base e 1 (.slice a' (n + m) cap') (n + m) (xs ++ news) → w.grownBy w' v.ownBlock → (Value.ownBlock (.slice a' (n + m) cap') = v.ownBlock ∨ Value.ownBlock (.slice a' (n + m) cap') = some w.heap.size) → K (a.put o.dst (.slice a' (n + m) cap')) w') :
    if Region.wanted o (yielded ops a.tmps) = true then Oper.wp P o a w K Q else E := by
  have hw : Region.wanted o (yielded ops a.tmps) = true := by simp [Region.wanted, hgd]
  rw [if_pos hw]
  exact wp_append_any w s x t tx ho base e i z bytes ht hi hz hsize hby hzs v n xs hsv hown xv hx m news hs h63 hbytes hbase h
end

/-- a slice of integers that came in, as a slice that is read -/
theorem sl_of_row {k : IntKind} {w : World} {a : Option Addr} {len cap : Nat} {zs : List Int} (h : IsRow k w a len cap zs) : SlA k w a len cap (zs.take len) := by
  rcases h with ⟨h1, h2, h3, h4⟩ | ⟨x, hx, h1, h2, h3, h4, h5⟩
  · subst h1 h2 h3 h4
    exact ⟨rfl, Nat.le_refl _, by simp [maxLen], fun _ => rfl, fun h => by omega⟩
  · refine ⟨by simp; omega, h1, h2, (fun h => by rw [hx] at h; cases h), fun h0 => ?_⟩
    obtain ⟨b, off, rfl, hc⟩ := ints_at h4 (by omega)
    refine ⟨b, off, hx, fun i hi => ?_⟩
    rw [hc i (by omega)]
    congr 2
    simp [List.getD, hi]
theorem wf_of_row {k : IntKind} {w : World} {a : Option Addr} {len cap : Nat} {zs : List Int} (h : IsRow k w a len cap zs) : ∀ n ∈ zs.take len, (Lit.int k n).wf = true := by
  rcases h with ⟨h1, h2, h3, h4⟩ | ⟨x, hx, h1, h2, h3, h4, h5⟩
  · subst h4; simp
  · exact fun n hn => h5 n (List.mem_of_mem_take hn)

/-- the cells of a new block that holds integers -/
theorem sl_new (k : IntKind) (t : TypeId) (w : World) (c : List Int) (hm : c.length ≤ maxLen) : SlA k (w.alloc (.cells (ints k c).toArray t)) (some ⟨w.heap.size, 0, none⟩) c.length c.length c :=
  ⟨rfl, Nat.le_refl _, hm, (fun h => by cases h), fun h0 => ⟨w.heap.size, 0, rfl, fun i hi => by
    rw [World.cell?_alloc_at _ _ _ _ rfl, List.getElem?_toArray, Nat.zero_add, ints, getD_map_some hi]⟩⟩

end Go.Proofs.Ytegbkeichkifnaa.mem
/-!   Ranges over functions, iterators within iterators among them: what a round writes and what an iterator writes are told apart by a set of blocks. Imports nothing of the program.
-/
namespace Go.Proofs.Ytegbkeichkifnaa.rng
open Go.RowKit mem
set_option linter.unusedVariables false

/-- a step that leaves some blocks as they lay -/
structure Steps (K : Nat → Prop) (W W' : World) : Prop where
  os : W'.os = W.os
  tape : W'.tape = W.tape
  output : W'.output = W.output
  size : W.heap.size ≤ W'.heap.size
  same : ∀ k, k < W.heap.size → K k → W'.heap[k]? = W.heap[k]?
theorem Steps.refl (K : Nat → Prop) (W : World) : Steps K W W := ⟨rfl, rfl, rfl, Nat.le_refl _, fun _ _ _ => rfl⟩
theorem Steps.trans {K : Nat → Prop} {A B C : World} (h : Steps K A B) (k : Steps K B C) : Steps K A C :=
  ⟨k.os.trans h.os, k.tape.trans h.tape, k.output.trans h.output, Nat.le_trans h.size k.size, fun x hx hk => (k.same x (Nat.lt_of_lt_of_le hx h.size) hk).trans (h.same x hx hk)⟩
theorem Steps.mono {K K' : Nat → Prop} {A B : World} (h : Steps K A B) (hk : ∀ k, k < A.heap.size → K' k → K k) : Steps K' A B :=
  ⟨h.os, h.tape, h.output, h.size, fun x hx q => h.same x hx (hk x hx q)⟩
theorem Steps.of_below {w w' : World} (h : Below w.heap.size w w') (K : Nat → Prop) : Steps K w w' := ⟨h.os, h.tape, h.output, h.size, fun k hk _ => h.block k hk⟩
theorem Steps.of_kept {S : List Nat} {w w' : World} (h : Kept S w w') (K : Nat → Prop) (hK : ∀ k ∈ S, ¬ K k) : Steps K w w' :=
  ⟨h.os, h.tape, h.output, h.size, fun k hk q => h.block k hk (fun e => hK k e q)⟩
theorem Steps.below {K : Nat → Prop} {w w' : World} {n : Nat} (h : Steps K w w') (hn : n ≤ w.heap.size) (hK : ∀ k, k < n → K k) : Below n w w' :=
  ⟨h.os, h.tape, h.output, h.size, fun k hk => h.same k (by omega) (hK k hk)⟩
theorem Steps.drew (K : Nat → Prop) (W : World) : Steps K W W.drew := ⟨rfl, rfl, rfl, Nat.le_refl _, fun _ _ _ => rfl⟩
theorem Steps.drewN (K : Nat → Prop) (W : World) (n : Nat) : Steps K W (W.drewN n) := ⟨rfl, rfl, rfl, Nat.le_refl _, fun _ _ _ => rfl⟩
theorem Steps.alloc (K : Nat → Prop) (W : World) (o : Obj) : Steps K W (W.alloc o) := .of_below ((Below.refl _ _).alloc (Nat.le_refl _) _) K
theorem Steps.setCell (K : Nat → Prop) (W : World) (p : Addr) (v : Value) (hp : ¬ K p.block) : Steps K W (W.setCell p v) :=
  .of_kept ((Kept.refl [p.block] W).setCell (.inl (by simp)) v) K (by simpa using hp)
theorem Steps.putObj (K : Nat → Prop) (W : World) (l : Nat) (o : Obj) (hl : ¬ K l) : Steps K W (W.putObj l o) :=
  ⟨rfl, rfl, rfl, by simp, fun k hk q => World.putObj_heap_other (fun e => hl (e ▸ q))⟩
theorem Steps.cell {K : Nat → Prop} {w w' : World} (h : Steps K w w') {p : Addr} {v : Value} (hp : K p.block) (hc : w.cell? p = some v) : w'.cell? p = some v :=
  (World.cell?_of_block (h.same p.block (World.block_lt_of_cell? w p hc) hp)).trans hc
theorem Steps.heap {K : Nat → Prop} {w w' : World} (h : Steps K w w') {k : Nat} {o : Obj} (hp : K k) (hc : w.heap[k]? = some o) : w'.heap[k]? = some o :=
  (h.same k (lt_of_block hc) hp).trans hc

/-- a call of yield -/
def Yd (P : Program) (l : Nat) (args : Array Value) (W : World) (R : Ending → World → Prop) : Prop := YieldAt Fence.wide 0 P l args W R
theorem Yd.at {P : Program} {l : Nat} {args : Array Value} {W : World} {R : Ending → World → Prop} (h : Yd P l args W R) (m : Nat) : YieldAt Fence.wide m P l args W R := by
  obtain ⟨fn, tmps, assign, body, hy, h1, h2⟩ := h
  exact ⟨fn, tmps, assign, body, hy, h1, fun c cs _ => h2 c cs (room_wide _)⟩
theorem Yd.inRound {P : Program} {l : Nat} {args : Array Value} {W : World} {R : Ending → World → Prop} (h : Yd P l args W R) (l' m : Nat) : YieldAt (Fence.wide.inRound l') m P l args W R := h.at m
theorem Yd.mono {P : Program} {l : Nat} {args : Array Value} {W : World} {R R' : Ending → World → Prop} (h : Yd P l args W R) (hr : ∀ e w, R e w → R' e w) : Yd P l args W R' := YieldAt.mono h hr
theorem Yd.of {P : Program} {l : Nat} {args : Array Value} {W : World} {R : Ending → World → Prop} {m : Nat} (h : YieldAt Fence.wide m P l args W R) : Yd P l args W R := by
  obtain ⟨fn, tmps, assign, body, hy, h1, h2⟩ := h
  exact ⟨fn, tmps, assign, body, hy, h1, fun c cs _ => h2 c cs (room_wide _)⟩

/-- the consumer's invariant bears the iterator's steps, from block n on -/
def Bears {β : Type} (n : Nat) (J : β → (Nat → Prop) → World → Prop) : Prop :=
  ∀ s C W1 W2, J s C W1 → n ≤ W1.heap.size → Steps (fun k => k < n ∨ C k) W1 W2 → J s C W2
/-- a round: what the consumer may write has grown by new blocks alone; all else lies as it lay -/
def Round (C : Nat → Prop) (W : World) (C' : Nat → Prop) (W' : World) : Prop :=
  Steps (fun k => ¬ C k) W W' ∧ ∀ k, C' k → C k ∨ (W.heap.size ≤ k ∧ k < W'.heap.size)
theorem Round.refl (C : Nat → Prop) (W : World) : Round C W C W := ⟨Steps.refl _ _, fun _ h => .inl h⟩
theorem Round.trans {C C' C'' : Nat → Prop} {A B D : World} (h : Round C A C' B) (k : Round C' B C'' D) : Round C A C'' D := by
  refine ⟨⟨k.1.os.trans h.1.os, k.1.tape.trans h.1.tape, k.1.output.trans h.1.output, Nat.le_trans h.1.size k.1.size, fun x hx hn => ?_⟩, fun x hx => ?_⟩
  · refine (k.1.same x (Nat.lt_of_lt_of_le hx h.1.size) (fun e => ?_)).trans (h.1.same x hx hn)
    rcases h.2 x e with e | e
    · exact hn e
    · omega
  · have a := h.1.size
    have b := k.1.size
    rcases k.2 x hx with e | e
    · rcases h.2 x e with e | e
      · exact .inl e
      · exact .inr ⟨e.1, by omega⟩
    · exact .inr ⟨by omega, e.2⟩
/-- new blocks may be taken in -/
theorem Round.take {C C' : Nat → Prop} {W W' : World} (h : Round C W C' W') : Round C W (fun k => C' k ∨ (W.heap.size ≤ k ∧ k < W'.heap.size)) W' :=
  ⟨h.1, fun k hk => by rcases hk with hk | hk; exact h.2 k hk; exact .inr hk⟩
theorem Round.of_below {w w' : World} (h : Below w.heap.size w w') (C : Nat → Prop) : Round C w C w' := ⟨Steps.of_below h _, fun _ h => .inl h⟩
theorem Round.of_kept {S : List Nat} {w w' : World} {C : Nat → Prop} (h : Kept S w w') (hS : ∀ k ∈ S, C k) : Round C w C w' := ⟨Steps.of_kept h _ (fun k hk q => q (hS k hk)), fun _ h => .inl h⟩

/-- a region in a round whose operations defer nothing is walked as anywhere -/
theorem wpOpIn_round {n : Nat} {P : Program} {ops : Array Oper} {Q : Exit → Act → World → Prop} {l i : Nat} {K : Act → World → Prop} {a : Act} {w : World} (hd : ∀ (i : Nat) (o : Oper), ops[i]? = some o → ∀ c, o.op ≠ .defer c)
    (h : wpOpIn Fence.wide n P ops Q i K a w) : wpOpIn (Fence.wide.inRound l) n P ops Q i K a w := by
  unfold wpOpIn at *
  cases ho : ops[i]? with
  | none => rw [ho] at h; exact h
  | some o =>
    rw [ho] at h
    simp only at h ⊢
    split
    · rename_i hw
      rw [if_pos hw] at h
      unfold Oper.wpIn at *
      refine ⟨h.1, ?_⟩
      have h2 := h.2
      rw [show Fence.wide.round = none from rfl, Oper.semAt_none] at h2
      rw [Oper.semAt_eq _ _ _ (hd i o ho)]
      exact h2
    · rename_i hw
      rw [if_neg hw] at h
      exact h
theorem wpAnyIn_round {n : Nat} {P : Program} {ops : Array Oper} {Q : Exit → Act → World → Prop} {md : Region.Mode} {l : Nat} (hd : ∀ (i : Nat) (o : Oper), ops[i]? = some o → ∀ c, o.op ≠ .defer c) :
    ∀ {fuel : Nat} {listed : Array Bool} {a : Act} {w : World}, wpAnyIn Fence.wide n P md ops Q fuel listed a w → wpAnyIn (Fence.wide.inRound l) n P md ops Q fuel listed a w := by
  intro fuel
  induction fuel with
  | zero => intro listed a w h; exact h
  | succ fuel ih => intro listed a w h; exact ⟨h.1, fun i hi => wpOpIn_mono (fun a w h => ih h) (wpOpIn_round hd (h.2 i hi))⟩
def noDefer (ops : Array Oper) : Bool := ops.all (fun o => match o.op with | .defer _ => false | _ => true)
theorem noDefer_spec {ops : Array Oper} (h : noDefer ops = true) : ∀ (i : Nat) (o : Oper), ops[i]? = some o → ∀ c, o.op ≠ .defer c := by
  intro i o ho c hc
  unfold noDefer at h
  rw [Array.all_eq_true] at h
  obtain ⟨hlt, he⟩ := Array.getElem?_eq_some_iff.1 ho
  have := h i hlt
  rw [he, hc] at this
  simp at this
theorem wpIn_region_round {P : Program} {n l id : Nat} {ops : Array Oper} {Q : Exit → Act → World → Prop} {a : Act} {w : World} (hm : P.follows .mixedOrders = true) (hd : noDefer ops = true)
    (h : wpAnyIn Fence.wide n P .any ops Q ops.size (Array.replicate ops.size false) a w.drew) : (Code.region id ops true).wpIn (Fence.wide.inRound l) n P Q a w :=
  wpIn_region_any hm (wpAnyIn_round (noDefer_spec hd) h)

/-- the end of a round, in one piece -/
theorem one_way {C : Nat → Prop} {W W' : World} {e : Ending} {X Y : (Nat → Prop) → Prop} (h : ∃ C', Round C W C' W' ∧ ((e = .returned (.bool true) ∧ X C') ∨ (e = .returned (.bool false) ∧ Y C'))) :
    ∃ b, e = .returned (.bool b) ∧ ∃ C', Round C W C' W' ∧ ((b = true ∧ X C') ∨ (b = false ∧ Y C')) := by
  obtain ⟨C', hr, ⟨rfl, h⟩ | ⟨rfl, h⟩⟩ := h
  · exact ⟨true, rfl, C', hr, .inl ⟨rfl, h⟩⟩
  · exact ⟨false, rfl, C', hr, .inr ⟨rfl, h⟩⟩
/-- the contract of an iterator that tells the list L; A: what of the old blocks the consumer may write -/
def SeqOf {α : Type} (P : Program) (g : Nat) (lb : Array Value) (encs : α → Array Value) (L : List α) (A : Nat → Prop) (w : World) : Prop :=
  ∀ (l : Nat) (J Jx : List α → (Nat → Prop) → World → Prop) (C0 : Nat → Prop) (W : World),
    Below w.heap.size w W → (∀ k, C0 k → (A k ∨ w.heap.size ≤ k) ∧ k < W.heap.size) → Bears W.heap.size J → Bears W.heap.size Jx →
    (∀ pre x C W1, J pre C W1 → W.heap.size ≤ W1.heap.size → pre ++ [x] <+: L → Yd P l (encs x) W1 fun e W' =>
      ∃ C', Round C W1 C' W' ∧ ((e = .returned (.bool true) ∧ J (pre ++ [x]) C' W') ∨ (e = .returned (.bool false) ∧ Jx (pre ++ [x]) C' W'))) →
    J [] C0 W →
    Calls P g (#[.func (.yield l) #[] #[]] ++ lb) W fun e W' => (∃ v, e = .returned v) ∧ ∃ C', J L C' W' ∨ ∃ pre, Jx pre C' W'
theorem SeqOf.later {α : Type} {P : Program} {g : Nat} {lb : Array Value} {encs : α → Array Value} {L : List α} {A : Nat → Prop} {w w' : World} (h : SeqOf P g lb encs L A w) (hb : Below w.heap.size w w') {A' : Nat → Prop} (hA : ∀ k, A' k → A k ∨ w.heap.size ≤ k) : SeqOf P g lb encs L A' w' :=
  fun l J Jx C0 W hW hC hJ hJx hY h0 => h l J Jx C0 W (hb.trans (hW.mono hb.size)) (fun k hk => by
    have := hb.size
    obtain ⟨a, b⟩ := hC k hk
    refine ⟨?_, b⟩
    rcases a with a | a
    · exact hA k a
    · exact .inr (by omega)) hJ hJx hY h0

/-- what an iterator knows while it runs: W: the world when it was called -/
structure It (C0 : Nat → Prop) (W : World) (C : Nat → Prop) (W1 : World) : Prop where
  grow : ∀ k, C k → (C0 k ∨ W.heap.size ≤ k) ∧ k < W1.heap.size
  kept : Steps (fun k => ¬ C0 k) W W1
theorem It.refl {C0 : Nat → Prop} {W : World} (h : ∀ k, C0 k → k < W.heap.size) : It C0 W C0 W := ⟨fun k hk => ⟨.inl hk, h k hk⟩, Steps.refl _ _⟩
theorem It.round {C0 C C' : Nat → Prop} {W W1 W' : World} (h : It C0 W C W1) (hr : Round C W1 C' W') : It C0 W C' W' := by
  have s := h.kept.size
  refine ⟨fun k hk => ?_, ⟨hr.1.os.trans h.kept.os, hr.1.tape.trans h.kept.tape, hr.1.output.trans h.kept.output, Nat.le_trans s hr.1.size, fun k hk hn => ?_⟩⟩
  · rcases hr.2 k hk with a | a
    · exact ⟨(h.grow k a).1, Nat.lt_of_lt_of_le (h.grow k a).2 hr.1.size⟩
    · exact ⟨.inr (by omega), a.2⟩
  · refine (hr.1.same k (Nat.lt_of_lt_of_le hk s) (fun e => ?_)).trans (h.kept.same k hk hn)
    rcases (h.grow k e).1 with a | a
    · exact hn a
    · omega
theorem It.own {C0 C : Nat → Prop} {W W1 W2 : World} (h : It C0 W C W1) (hs : Steps (fun k => k < W.heap.size ∨ C k) W1 W2) : It C0 W C W2 :=
  ⟨fun k hk => ⟨(h.grow k hk).1, Nat.lt_of_lt_of_le (h.grow k hk).2 hs.size⟩, ⟨hs.os.trans h.kept.os, hs.tape.trans h.kept.tape, hs.output.trans h.kept.output, Nat.le_trans h.kept.size hs.size, fun k hk hn =>
    (hs.same k (Nat.lt_of_lt_of_le hk h.kept.size) (.inl hk)).trans (h.kept.same k hk hn)⟩⟩

theorem It.block {C0 C : Nat → Prop} {W W1 : World} (h : It C0 W C W1) {b : Nat} {o : Obj} (hb : W.heap[b]? = some o) (hn : ¬ C0 b) : W1.heap[b]? = some o := h.kept.heap hn hb

/-- how the body of a round may be left -/
def rPost {α : Type} (I : List α → (Nat → Prop) → World → Prop) (Ix : Code → List α → (Nat → Prop) → World → Prop) (xs : List α) (C : Nat → Prop) (W : World) : Exit → Act → World → Prop
  | .normal, _, W' => ∃ C', Round C W C' W' ∧ I xs C' W'
  | .ret, _, W' => ∃ C', Round C W C' W' ∧ Ix .ret xs C' W'
  | .exit id, _, W' => ∃ C', Round C W C' W' ∧ Ix (.exit id) xs C' W'
  | .goto t, _, W' => ∃ C', Round C W C' W' ∧ Ix (.goto t) xs C' W'
  | .panic _, _, _ => False
  | .outgrown, _, _ => False

/-- **a range over a function**, in a function's body (not within a round) -/
theorem wpIn_range {P : Program} {n : Nat} {α : Type} {g : Operand} {ps : Array Tmp} {assign body : Code} {Q : Exit → Act → World → Prop} {a : Act} {w : World}
    {gf : Nat} {lb : Array Value} (hg : a.eval g = .func (.func gf) #[] lb) (eg : ∀ args w, (callFunc gf args).run P w = .ok (.enter gf args) w)
    {encs : α → Array Value} {L : List α} {A : Nat → Prop} {w0 : World} (hseq : SeqOf P gf lb encs L A w0) (hb0 : Below w0.heap.size w0 w) (hps : ∀ x, (encs x).size = ps.size)
    (I : List α → (Nat → Prop) → World → Prop) (Ix : Code → List α → (Nat → Prop) → World → Prop) (C0 : Nat → Prop) (hC0 : ∀ k, C0 k → (A k ∨ w0.heap.size ≤ k) ∧ k < w.heap.size)
    (hI : Bears w.heap.size I) (hIx : ∀ c, Bears w.heap.size (Ix c)) (h0 : I [] C0 w) (Ax : α → Act → (Nat → Prop) → World → Prop) (hAx : ∀ x a', Bears w.heap.size (fun (_ : Unit) C W => Ax x a' C W))
    (hassign : ∀ (l : Nat) (pre : List α) (x : α) (C : Nat → Prop) (W : World) (K : Act → World → Prop), I pre C W → pre ++ [x] <+: L → (∀ k, C k → k < W.heap.size) → w.heap.size ≤ W.heap.size →
      (∀ a' C' W', Round C W C' W' → I pre C' W' → Ax x a' C' W' → K a' W') →
      assign.wpIn (Fence.wide.inRound l) (n - 1 - 1) P (Exit.then K (fun _ _ _ => False)) { tmps := (ps.zip (encs x)).foldl (fun t (p, v) => t.setIfInBounds p v) a.tmps, defers := [] } W)
    (hbody : ∀ (l : Nat) (pre : List α) (x : α) (a' : Act) (C : Nat → Prop) (W : World), I pre C W → Ax x a' C W → pre ++ [x] <+: L → (∀ k, C k → k < W.heap.size) → w.heap.size ≤ W.heap.size →
      body.wpIn (Fence.wide.inRound l) (n - 1 - 1) P (rPost I Ix (pre ++ [x]) C W) a' W)
    (hdone : ∀ (D : Nat) (C : Nat → Prop) (W : World), w.heap.size ≤ D → ¬ C D → I L C W → W.heap[D]? = some (.deferred (some [])) → Q .normal { a with defers := { target := .collected D, args := #[] } :: a.defers } W)
    (hstop : ∀ (D : Nat) (c : Code) (pre : List α) (C : Nat → Prop) (W : World), w.heap.size ≤ D → ¬ C D → Ix c pre C W → W.heap[D]? = some (.deferred (some [])) → c.wpIn Fence.wide n P Q { a with defers := { target := .collected D, args := #[] } :: a.defers } W) :
    (Code.rangeFunc g ps assign body).wpIn Fence.wide n P Q a w := by
  refine wpIn_rangeFunc ?_
  intro fn hfn
  obtain ⟨rec, hrec⟩ : ∃ rec : LoopState → Option Code → Loop, rec = fun st pe => { state := st, pending := pe, fn, tmps := a.tmps, params := ps, assign, body, defers := w.heap.size } := ⟨_, rfl⟩
  obtain ⟨W1, hW1⟩ : ∃ W1, (w.alloc (.deferred (some []))).alloc (.loop (rec .ready none)) = W1 := ⟨_, rfl⟩
  have hL1 : W1.heap[w.heap.size + 1]? = some (.loop (rec .ready none)) := by
    rw [← hW1]; have := World.alloc_heap_new (w.alloc (.deferred (some []))) (.loop (rec .ready none)); rwa [World.size_alloc] at this
  have hK1 : W1.heap[w.heap.size]? = some (.deferred (some [])) := by
    rw [← hW1]; exact (Below.heap_alloc _ _ _ (by simp)).trans (World.alloc_heap_new w _)
  have hz : W1.heap.size = w.heap.size + 1 + 1 := by rw [← hW1]; simp
  have bw1 : Below w.heap.size w W1 := by rw [← hW1]; exact ((Below.refl _ w).alloc (Nat.le_refl _) _).alloc (by simp) _
  have hI1 : I [] C0 W1 := hI _ _ _ _ h0 (Nat.le_refl _) (Steps.of_below bw1 _)
  refine ⟨w.heap.size + 1, [{ target := .collected w.heap.size, args := #[] }], W1, { target := .fn (.func gf) lb, args := #[.func (.yield (w.heap.size + 1)) #[] #[]] }, W1, gf,
    #[.func (.yield (w.heap.size + 1)) #[] #[]] ++ lb, W1, ?_, ?_, ?_, ?_, (fun h => by simp [Fence.wide] at h), ?_⟩
  · rw [← hW1, hrec]; exact run_enterLoop_outer _ _ _ _ _
  · simp only [resolve, hg]
    simp [go_sem]
  · intro f' hf'; trivial
  · simp [invoke, go_sem, eg]
  · refine callsIn_wide.2 ?_
    -- the two blocks of book-keeping are the consumer's, beside the user's own
    let Cj : (Nat → Prop) → Nat → Prop := fun C k => C k ∨ k = w.heap.size ∨ k = w.heap.size + 1
    let J : List α → (Nat → Prop) → World → Prop := fun pre C' W => ∃ C, C' = Cj C ∧ I pre C W ∧ (¬ C w.heap.size ∧ ¬ C (w.heap.size + 1) ∧ ∀ k, C k → k < W.heap.size) ∧ W.heap[w.heap.size + 1]? = some (.loop (rec .ready none)) ∧ W.heap[w.heap.size]? = some (.deferred (some []))
    let Jx : List α → (Nat → Prop) → World → Prop := fun pre C' W => ∃ C c, C' = Cj C ∧ Ix c pre C W ∧ (¬ C w.heap.size ∧ ¬ C (w.heap.size + 1) ∧ ∀ k, C k → k < W.heap.size) ∧ W.heap[w.heap.size + 1]? = some (.loop (rec .done (some c))) ∧ W.heap[w.heap.size]? = some (.deferred (some []))
    have hsm : ∀ {C : Nat → Prop} {X Y : World}, Steps (fun k => k < W1.heap.size ∨ Cj C k) X Y → Steps (fun k => k < w.heap.size ∨ C k) X Y := fun h => h.mono (fun k _ hk => by
      rcases hk with hk | hk
      · exact .inl (by omega)
      · exact .inr (.inl hk))
    refine (hseq (w.heap.size + 1) J Jx (Cj C0) W1 (hb0.trans (bw1.mono hb0.size)) ?_ ?_ ?_ ?_ ?_).mono ?_
    · intro k hk
      have h1 := hb0.size
      rcases hk with hk | hk | hk
      · exact ⟨(hC0 k hk).1, by have := (hC0 k hk).2; omega⟩
      · exact ⟨.inr (by omega), by omega⟩
      · exact ⟨.inr (by omega), by omega⟩
    · rintro s C' X Y ⟨C, rfl, hi, ⟨h1, h2, h3⟩, hl, hk⟩ hn hs
      exact ⟨C, rfl, hI _ _ _ _ hi (by omega) (hsm hs), ⟨h1, h2, fun k hk => Nat.lt_of_lt_of_le (h3 k hk) hs.size⟩, hs.heap (.inr (.inr (.inr rfl))) hl, hs.heap (.inr (.inr (.inl rfl))) hk⟩
    · rintro s C' X Y ⟨C, c, rfl, hi, ⟨h1, h2, h3⟩, hl, hk⟩ hn hs
      exact ⟨C, c, rfl, hIx c _ _ _ _ hi (by omega) (hsm hs), ⟨h1, h2, fun k hk => Nat.lt_of_lt_of_le (h3 k hk) hs.size⟩, hs.heap (.inr (.inr (.inr rfl))) hl, hs.heap (.inr (.inr (.inl rfl))) hk⟩
    · -- one round
      rintro pre x C' W ⟨C, rfl, hi, ⟨h1, h2, h3⟩, hl, hk⟩ hWs hpre
      have hlt : w.heap.size + 1 < W.heap.size := (Array.getElem?_eq_some_iff.1 hl).1
      have hy := run_yield (P := P) (args := encs x) hl (by rw [hrec]; exact hps x)
      rw [hrec] at hy
      refine Yd.of (m := n - 1 - 1) ⟨fn, _, assign, body, hy, roundIn_of_wpIn hfn (hassign _ pre x C W _ hi hpre h3 (by omega) ?_)⟩
      clear hy
      intro a' Ca Wa hra hia hax
      have h1a : ¬ Ca w.heap.size := fun e => by rcases hra.2 _ e with e | e; exact h1 e; omega
      have h2a : ¬ Ca (w.heap.size + 1) := fun e => by rcases hra.2 _ e with e | e; exact h2 e; omega
      have h3a : ∀ k, Ca k → k < Wa.heap.size := fun k hk => by rcases hra.2 k hk with e | e; exact Nat.lt_of_lt_of_le (h3 k e) hra.1.size; exact e.2
      have hla := hra.1.heap h2 hl
      have hka := hra.1.heap h1 hk
      have hlta : w.heap.size + 1 < Wa.heap.size := (Array.getElem?_eq_some_iff.1 hla).1
      refine ⟨_, run_beginRound hla (by rw [hrec]), ?_⟩
      obtain ⟨Wb, hWb⟩ : ∃ Wb, Wb = Wa.putObj (w.heap.size + 1) (.loop { rec .ready none with state := .busy }) := ⟨_, rfl⟩
      rw [← hWb]
      have hlb : Wb.heap[w.heap.size + 1]? = some (.loop { rec .ready none with state := .busy }) := by rw [hWb]; exact World.putObj_heap_same hlta
      have hkb : Wb.heap[w.heap.size]? = some (.deferred (some [])) := by rw [hWb]; exact (World.putObj_heap_other (by omega)).trans hka
      have sb : Steps (fun k => k < w.heap.size ∨ Ca k) Wa Wb := by rw [hWb]; exact Steps.putObj _ _ _ _ (by rintro (e | e); omega; exact h2a e)
      have rb : Round (Cj Ca) Wa (Cj Ca) Wb := ⟨by rw [hWb]; exact Steps.putObj _ _ _ _ (fun e => e (.inr (.inr rfl))), fun k hk => .inl hk⟩
      have hib := hI _ _ _ _ hia (by omega) sb
      have haxb := hAx x a' () _ _ _ hax (by omega) sb
      have hzb : Wb.heap.size = Wa.heap.size := by rw [hWb]; simp
      have ra : Round (Cj C) W (Cj Ca) Wa := ⟨hra.1.mono (fun k _ hk e => hk (.inl e)), fun k hk => by
        rcases hk with hk | hk
        · rcases hra.2 k hk with e | e; exact .inl (.inl e); exact .inr e
        · exact .inl (.inr hk)⟩
      have rab := ra.trans rb
      refine wpIn_mono (hbody _ pre x a' Ca Wb hib haxb hpre (fun k hk => by rw [hzb]; exact h3a k hk) (by omega)) ?_
      have fin : ∀ (jump : Option Code) (C3 : Nat → Prop) (W3 : World), Round Ca Wb C3 W3 →
          (Instr.endRound (w.heap.size + 1) jump).run P W3 = .ok (.bool jump.isNone) (W3.putObj (w.heap.size + 1) (.loop (rec (if jump.isNone then .ready else .done) jump))) ∧
          (W3.putObj (w.heap.size + 1) (.loop (rec (if jump.isNone then .ready else .done) jump))).heap[w.heap.size + 1]? = some (.loop (rec (if jump.isNone then .ready else .done) jump)) ∧
          (W3.putObj (w.heap.size + 1) (.loop (rec (if jump.isNone then .ready else .done) jump))).heap[w.heap.size]? = some (.deferred (some [])) ∧
          Steps (fun k => k < w.heap.size ∨ C3 k) W3 (W3.putObj (w.heap.size + 1) (.loop (rec (if jump.isNone then .ready else .done) jump))) ∧
          Round (Cj C) W (Cj C3) (W3.putObj (w.heap.size + 1) (.loop (rec (if jump.isNone then .ready else .done) jump))) ∧
          (¬ C3 w.heap.size ∧ ¬ C3 (w.heap.size + 1) ∧ ∀ k, C3 k → k < W3.heap.size) ∧ w.heap.size ≤ W3.heap.size := fun jump C3 W3 hr3 => by
        have h13 : ¬ C3 w.heap.size := fun e => by rcases hr3.2 _ e with e | e; exact h1a e; omega
        have h23 : ¬ C3 (w.heap.size + 1) := fun e => by rcases hr3.2 _ e with e | e; exact h2a e; omega
        have hl3 := hr3.1.heap h2a hlb
        have hk3 := hr3.1.heap h1a hkb
        have := run_endRound (P := P) jump hl3
        have hlt3 := (Array.getElem?_eq_some_iff.1 hl3).1
        rw [hrec] at this ⊢
        refine ⟨this, World.putObj_heap_same hlt3, (World.putObj_heap_other (by omega)).trans hk3, Steps.putObj _ _ _ _ (by rintro (e | e); omega; exact h23 e), ?_, ⟨h13, h23, fun k hk => by rcases hr3.2 k hk with e | e; exact Nat.lt_of_lt_of_le (by rw [hzb]; exact h3a k e) hr3.1.size; exact e.2⟩, by omega⟩
        refine (rab.trans (C'' := Cj C3) (D := W3) ⟨hr3.1.mono (fun k _ hk e => hk (.inl e)), fun k hk => ?_⟩).trans ⟨Steps.putObj _ _ _ _ (fun e => e (.inr (.inr rfl))), fun k hk => .inl hk⟩
        rcases hk with hk | hk
        · rcases hr3.2 k hk with e | e; exact .inl (.inl e); exact .inr e
        · exact .inl (.inr hk)
      rintro e a3 W3 hp
      cases e with
      | normal =>
        obtain ⟨C3, hr3, hi3⟩ := hp
        obtain ⟨hr, hl4, hk4, s4, r4, ⟨b1, b2, b3⟩, b4⟩ := fin none C3 W3 hr3
        exact ⟨_, _, hr, Cj C3, r4, .inl ⟨rfl, C3, rfl, hI _ _ _ _ hi3 b4 s4, ⟨b1, b2, fun k hk => by simpa using b3 k hk⟩, hl4, hk4⟩⟩
      | ret =>
        obtain ⟨C3, hr3, hi3⟩ := hp
        obtain ⟨hr, hl4, hk4, s4, r4, ⟨b1, b2, b3⟩, b4⟩ := fin (some .ret) C3 W3 hr3
        exact ⟨_, _, hr, Cj C3, r4, .inr ⟨rfl, C3, .ret, rfl, hIx _ _ _ _ _ hi3 b4 s4, ⟨b1, b2, fun k hk => by simpa using b3 k hk⟩, hl4, hk4⟩⟩
      | exit id =>
        obtain ⟨C3, hr3, hi3⟩ := hp
        obtain ⟨hr, hl4, hk4, s4, r4, ⟨b1, b2, b3⟩, b4⟩ := fin (some (.exit id)) C3 W3 hr3
        exact ⟨_, _, hr, Cj C3, r4, .inr ⟨rfl, C3, .exit id, rfl, hIx _ _ _ _ _ hi3 b4 s4, ⟨b1, b2, fun k hk => by simpa using b3 k hk⟩, hl4, hk4⟩⟩
      | goto t =>
        obtain ⟨C3, hr3, hi3⟩ := hp
        obtain ⟨hr, hl4, hk4, s4, r4, ⟨b1, b2, b3⟩, b4⟩ := fin (some (.goto t)) C3 W3 hr3
        exact ⟨_, _, hr, Cj C3, r4, .inr ⟨rfl, C3, .goto t, rfl, hIx _ _ _ _ _ hi3 b4 s4, ⟨b1, b2, fun k hk => by simpa using b3 k hk⟩, hl4, hk4⟩⟩
      | panic ch => exact hp.elim
      | outgrown => exact hp.elim
    · exact ⟨C0, rfl, hI1, ⟨fun e => by have := (hC0 _ e).2; omega, fun e => by have := (hC0 _ e).2; omega, fun k hk => by have := (hC0 _ hk).2; omega⟩, hL1, hK1⟩
    · -- behind the iterator
      rintro e W2 ⟨⟨v, rfl⟩, _, (⟨C, rfl, hi, ⟨h1, h2, h3⟩, hl, hk⟩ | ⟨pre, C, c, rfl, hi, ⟨h1, h2, h3⟩, hl, hk⟩)⟩
      · have hlt := (Array.getElem?_eq_some_iff.1 hl).1
        have sp : ∀ o, Steps (fun k => k < w.heap.size ∨ C k) W2 (W2.putObj (w.heap.size + 1) o) := fun o => Steps.putObj _ _ _ _ (by rintro (e | e); omega; exact h2 e)
        exact ⟨none, _, by have := run_endLoop (P := P) hl (by rw [hrec]; simp); rw [hrec] at this; exact this, hdone _ C _ (Nat.le_refl _) h1 (hI _ _ _ _ hi (by omega) (sp _)) ((World.putObj_heap_other (by omega)).trans hk)⟩
      · have hlt := (Array.getElem?_eq_some_iff.1 hl).1
        have sp : ∀ o, Steps (fun k => k < w.heap.size ∨ C k) W2 (W2.putObj (w.heap.size + 1) o) := fun o => Steps.putObj _ _ _ _ (by rintro (e | e); omega; exact h2 e)
        exact ⟨some c, _, by have := run_endLoop (P := P) hl (by rw [hrec]; simp); rw [hrec] at this; exact this, hstop _ c pre C _ (Nat.le_refl _) h1 (hIx _ _ _ _ _ hi (by omega) (sp _)) ((World.putObj_heap_other (by omega)).trans hk)⟩

/-- the same, where the assignment to the loop's variables makes no memory -/
theorem wpIn_range' {P : Program} {n : Nat} {α : Type} {g : Operand} {ps : Array Tmp} {assign body : Code} {Q : Exit → Act → World → Prop} {a : Act} {w : World}
    {gf : Nat} {lb : Array Value} (hg : a.eval g = .func (.func gf) #[] lb) (eg : ∀ args w, (callFunc gf args).run P w = .ok (.enter gf args) w)
    {encs : α → Array Value} {L : List α} {A : Nat → Prop} {w0 : World} (hseq : SeqOf P gf lb encs L A w0) (hb0 : Below w0.heap.size w0 w) (hps : ∀ x, (encs x).size = ps.size)
    (I : List α → (Nat → Prop) → World → Prop) (Ix : Code → List α → (Nat → Prop) → World → Prop) (C0 : Nat → Prop) (hC0 : ∀ k, C0 k → (A k ∨ w0.heap.size ≤ k) ∧ k < w.heap.size)
    (hI : Bears w.heap.size I) (hIx : ∀ c, Bears w.heap.size (Ix c)) (h0 : I [] C0 w) (a₁ : α → Act)
    (hassign : ∀ (l : Nat) (x : α) (W : World) (K : Act → World → Prop), K (a₁ x) W →
      assign.wpIn (Fence.wide.inRound l) (n - 1 - 1) P (Exit.then K (fun _ _ _ => False)) { tmps := (ps.zip (encs x)).foldl (fun t (p, v) => t.setIfInBounds p v) a.tmps, defers := [] } W)
    (hbody : ∀ (l : Nat) (pre : List α) (x : α) (C : Nat → Prop) (W : World), I pre C W → pre ++ [x] <+: L → (∀ k, C k → k < W.heap.size) → w.heap.size ≤ W.heap.size →
      body.wpIn (Fence.wide.inRound l) (n - 1 - 1) P (rPost I Ix (pre ++ [x]) C W) (a₁ x) W)
    (hdone : ∀ (D : Nat) (C : Nat → Prop) (W : World), w.heap.size ≤ D → ¬ C D → I L C W → W.heap[D]? = some (.deferred (some [])) → Q .normal { a with defers := { target := .collected D, args := #[] } :: a.defers } W)
    (hstop : ∀ (D : Nat) (c : Code) (pre : List α) (C : Nat → Prop) (W : World), w.heap.size ≤ D → ¬ C D → Ix c pre C W → W.heap[D]? = some (.deferred (some [])) → c.wpIn Fence.wide n P Q { a with defers := { target := .collected D, args := #[] } :: a.defers } W) :
    (Code.rangeFunc g ps assign body).wpIn Fence.wide n P Q a w :=
  wpIn_range hg eg hseq hb0 hps I Ix C0 hC0 hI hIx h0 (fun x a' _ _ => a' = a₁ x) (fun _ _ _ _ _ _ h _ _ => h)
    (fun l pre x C W K hi _ _ _ hK => hassign l x W K (hK _ C W (Round.refl C W) hi rfl))
    (fun l pre x a' C W hi ha hp hc hz => by subst ha; exact hbody l pre x C W hi hp hc hz) hdone hstop
/-- the same, the frame of a round told by what is laid into the frame at hand -/
theorem wpIn_rangeF {P : Program} {n : Nat} {α : Type} {g : Operand} {ps : Array Tmp} {assign body : Code} {Q : Exit → Act → World → Prop} {a : Act} {w : World} (f : α → Array Value → Array Value)
    {gf : Nat} {lb : Array Value} (hg : a.eval g = .func (.func gf) #[] lb) (eg : ∀ args w, (callFunc gf args).run P w = .ok (.enter gf args) w)
    {encs : α → Array Value} {L : List α} {A : Nat → Prop} {w0 : World} (hseq : SeqOf P gf lb encs L A w0) (hb0 : Below w0.heap.size w0 w) (hps : ∀ x, (encs x).size = ps.size)
    (I : List α → (Nat → Prop) → World → Prop) (Ix : Code → List α → (Nat → Prop) → World → Prop) (C0 : Nat → Prop) (hC0 : ∀ k, C0 k → (A k ∨ w0.heap.size ≤ k) ∧ k < w.heap.size)
    (hI : Bears w.heap.size I) (hIx : ∀ c, Bears w.heap.size (Ix c)) (h0 : I [] C0 w)
    (hassign : ∀ (l : Nat) (x : α) (W : World) (K : Act → World → Prop), K { tmps := f x a.tmps, defers := [] } W →
      assign.wpIn (Fence.wide.inRound l) (n - 1 - 1) P (Exit.then K (fun _ _ _ => False)) { tmps := (ps.zip (encs x)).foldl (fun t (p, v) => t.setIfInBounds p v) a.tmps, defers := [] } W)
    (hbody : ∀ (l : Nat) (pre : List α) (x : α) (C : Nat → Prop) (W : World), I pre C W → pre ++ [x] <+: L → (∀ k, C k → k < W.heap.size) → w.heap.size ≤ W.heap.size →
      body.wpIn (Fence.wide.inRound l) (n - 1 - 1) P (rPost I Ix (pre ++ [x]) C W) { tmps := f x a.tmps, defers := [] } W)
    (hdone : ∀ (D : Nat) (C : Nat → Prop) (W : World), w.heap.size ≤ D → ¬ C D → I L C W → W.heap[D]? = some (.deferred (some [])) → Q .normal { a with defers := { target := .collected D, args := #[] } :: a.defers } W)
    (hstop : ∀ (D : Nat) (c : Code) (pre : List α) (C : Nat → Prop) (W : World), w.heap.size ≤ D → ¬ C D → Ix c pre C W → W.heap[D]? = some (.deferred (some [])) → c.wpIn Fence.wide n P Q { a with defers := { target := .collected D, args := #[] } :: a.defers } W) :
    (Code.rangeFunc g ps assign body).wpIn Fence.wide n P Q a w :=
  wpIn_range' hg eg hseq hb0 hps I Ix C0 hC0 hI hIx h0 (fun x => { tmps := f x a.tmps, defers := [] }) hassign hbody hdone hstop
#print axioms wpIn_rangeF
end Go.Proofs.Ytegbkeichkifnaa.rng
/-!   A drawn region in a round that holds no yield: walked outside of fences, by the kit's laws that take loads first. Imports nothing of the program.
-/
namespace Go.Proofs.Ytegbkeichkifnaa.rng
open Go.RowKit mem
set_option linter.unusedVariables false

theorem wpOpIn_of_plain {n : Nat} {P : Program} {ops : Array Oper} {Q : Exit → Act → World → Prop} {i : Nat} {K : Act → World → Prop} {a : Act} {w : World} (hL : ¬ LetsOut Q)
    (h : wpOp P ops Q i K a w) : wpOpIn Fence.wide n P ops Q i K a w := by
  unfold wpOp at h
  unfold wpOpIn
  cases ho : ops[i]? with
  | none => rw [ho] at h; exact h
  | some o =>
    rw [ho] at h
    simp only at h ⊢
    split
    · rename_i hw
      rw [if_pos hw] at h
      rcases h with h | ⟨_, h⟩
      · refine ⟨fun _ _ => trivial, ?_⟩
        rw [show Fence.wide.round = none from rfl, Oper.semAt_none]
        unfold Oper.wp at h
        generalize (execOp a.eval o).run P w = r at *
        cases r with
        | ok x w' =>
          cases x <;> simp only [Oper.upon, Oper.uponIn] at h ⊢
          case value => exact h
          case skip => exact h
          case defer => exact h
          case enter f args => exact ⟨fun h => by simp [Fence.wide] at h, callsIn_wide.2 (Calls.mono h (fun e w'' he => by cases e <;> exact he))⟩
          case row row args => exact ⟨fun h => by simp [Fence.wide] at h, fun c cs _ => by
            obtain ⟨v, w', r, s⟩ := h c cs
            exact ⟨v, w', r, stepsIn_wide.2 s⟩⟩
        | halt x w' =>
          cases x <;> simp only [Oper.upon, Oper.uponIn] at h ⊢
          all_goals first | exact h | exact h.elim
      · exact absurd h hL
    · rename_i hw
      rw [if_neg hw] at h
      exact ⟨fun _ _ => trivial, h⟩
theorem wpAnyIn_of_plain {n : Nat} {P : Program} {ops : Array Oper} {Q : Exit → Act → World → Prop} {md : Region.Mode} (hL : ¬ LetsOut Q) :
    ∀ {fuel : Nat} {listed : Array Bool} {a : Act} {w : World}, wpAny P md ops Q fuel listed a w → wpAnyIn Fence.wide n P md ops Q fuel listed a w := by
  intro fuel
  induction fuel with
  | zero => intro listed a w h; exact h
  | succ fuel ih => intro listed a w h; exact ⟨h.1, fun i hi => wpOpIn_of_plain hL (wpOp_mono (fun a' w' h' => ih h') (h.2 i hi))⟩
/-- **a drawn region in a round, no yield in it**: the kit's 'wpAnyH' is what is walked: loads are taken first (wpAnyH_take), calls by AllReadyH.cons -/
theorem wpIn_region_held {P : Program} {n l id : Nat} {ops : Array Oper} {Q : Exit → Act → World → Prop} {a : Act} {w : World} (S : World → Prop) (hm : P.follows .mixedOrders = true) (hd : noDefer ops = true) (hL : ¬ LetsOut Q)
    (h : wpAnyH P .any ops Q S ops.size (Array.replicate ops.size false) a w.drew) : (Code.region id ops true).wpIn (Fence.wide.inRound l) n P Q a w :=
  wpIn_region_round hm hd (wpAnyIn_of_plain hL (wpAny_of_held _ _ _ _ h))
/-- the same in a function's body -/
theorem wpIn_region_held' {P : Program} {n id : Nat} {ops : Array Oper} {Q : Exit → Act → World → Prop} {a : Act} {w : World} (S : World → Prop) (hm : P.follows .mixedOrders = true) (hL : ¬ LetsOut Q)
    (h : wpAnyH P .any ops Q S ops.size (Array.replicate ops.size false) a w.drew) : (Code.region id ops true).wpIn Fence.wide n P Q a w :=
  wpIn_region_any hm (wpAnyIn_of_plain hL (wpAny_of_held _ _ _ _ h))
#print axioms wpIn_region_held
end Go.Proofs.Ytegbkeichkifnaa.rng
/-!   Package span: what each call does.
-/
namespace Go.Proofs.Ytegbkeichkifnaa.sp
open Go.RowKit aid mem
attribute [local go_sem ↓] Go.wp_at_zero Go.wp_at_succ
set_option linter.unusedVariables false

theorem bal {w : World} (o : Obj) : Below w.heap.size w (w.alloc o) := (Below.refl _ _).alloc (Nat.le_refl _) _
/-- the value of a span -/
abbrev spV (s : Int × Int) : Value := .agg #[.int .i64 s.1, .int .i64 s.2]
/-- block B holds a span -/
def SpAt (w : World) (B : Nat) (s : Int × Int) : Prop := w.heap[B]? = some (.cells #[.int .i64 s.1, .int .i64 s.2] 24 (0, 0))
theorem SpAt.c0 {w : World} {B : Nat} {s : Int × Int} (h : SpAt w B s) : w.cell? ⟨B, 0, none⟩ = some (.int .i64 s.1) := (cell_of_row w B 0 _ _ (0, 0) h).trans rfl
theorem SpAt.c1 {w : World} {B : Nat} {s : Int × Int} (h : SpAt w B s) : w.cell? ⟨B, 1, none⟩ = some (.int .i64 s.2) := (cell_of_row w B 1 _ _ (0, 0) h).trans rfl
theorem SpAt.f0 {w : World} {B : Nat} {s : Int × Int} (h : SpAt w B s) : w.frozen? ⟨B, 0, none⟩ = false := by simp [World.frozen?, show w.heap[B]? = _ from h]
theorem SpAt.f1 {w : World} {B : Nat} {s : Int × Int} (h : SpAt w B s) : w.frozen? ⟨B, 1, none⟩ = false := by simp [World.frozen?, show w.heap[B]? = _ from h]
theorem SpAt.lt {w : World} {B : Nat} {s : Int × Int} (h : SpAt w B s) : B < w.heap.size := lt_of_block h
theorem SpAt.keep {w w' : World} {B : Nat} {s : Int × Int} (h : SpAt w B s) {S : List Nat} (hk : Kept S w w') (hB : B ∉ S) : SpAt w' B s := hk.heap hB h
theorem SpAt.later {w w' : World} {B : Nat} {s : Int × Int} (h : SpAt w B s) (hk : Below w.heap.size w w') : SpAt w' B s := h.keep (Kept.of_below hk (Nat.le_refl _) []) (by simp)
theorem sp_new (w : World) (s : Int × Int) : SpAt (w.alloc (.cells #[.int .i64 s.1, .int .i64 s.2] 24)) w.heap.size s := heap_alloc_new w _
theorem SpAt.put {w : World} {B : Nat} {s : Int × Int} (h : SpAt w B s) (a b : Int) : SpAt ((w.setCell ⟨B, 0, none⟩ (.int .i64 a)).setCell ⟨B, 1, none⟩ (.int .i64 b)) B (a, b) :=
  (heap_setCell_same _ B 1 _ _ _ (heap_setCell_same _ B 0 _ _ _ h)).trans rfl
theorem kput (w : World) (B : Nat) (u v : Value) : Kept [B] w ((w.setCell ⟨B, 0, none⟩ u).setCell ⟨B, 1, none⟩ v) :=
  ((Kept.refl [B] w).setCell (.inl (by simp)) u).setCell (.inl (by simp)) v
def RetB (b : Bool) (w : World) (e : Ending) (w' : World) : Prop := e = .returned (.bool b) ∧ Below w.heap.size w w'
def RetI (n : Int) (w : World) (e : Ending) (w' : World) : Prop := e = .returned (.int .i64 n) ∧ Below w.heap.size w w'
def RetS (s : Int × Int) (w : World) (e : Ending) (w' : World) : Prop := e = .returned (.agg #[.int .i64 s.1, .int .i64 s.2]) ∧ Below w.heap.size w w'

set_option maxHeartbeats 400000 in
theorem may_any (f t : Int) (w : World) : Calls Try.prog 77 #[spV (f, t)] w (RetB (mayB f t) w) := by
  go_enter Try.func77, Try.ntmps77
  go_wp2
  all_goals
    go_ret
    exact ⟨ret_b (by unfold mayB; simp; omega), bal _⟩

theorem between_any (a b : Int) (w : World) : Calls Try.prog 57 #[.int .i64 a, .int .i64 b] w (RetS (betw a b) w) := by
  by_cases h : b ≤ a
  · have H : Hid (betw a b = (0, 0)) := Lib.hid (by unfold betw; rw [if_pos h])
    go_enter Try.func57, Try.ntmps57
    go_wp2
    refine bodyPost_ret (v := spV (0, 0)) (by simp [results, Try.results57, go_sem]) rfl ⟨by rw [H.out], ?_⟩
    exact bal _
  · have H : Hid (betw a b = (a, b)) := Lib.hid (by unfold betw; rw [if_neg h])
    go_enter Try.func57, Try.ntmps57
    go_wp2
    refine bodyPost_ret (v := spV (a, b)) (by simp [results, Try.results57, go_sem]) rfl ⟨by rw [H.out], ?_⟩
    exact bal _

theorem fit_any (s : Int × Int) (w : World) : Calls Try.prog 56 #[spV s] w (RetS (fitP s.1 s.2) w) := by
  have b1 := bal (w := w) (.cells #[.int .i64 s.1, .int .i64 s.2] 24)
  have b2 := b1.alloc b1.size (.cells #[.int .i64 0, .int .i64 0] 24)
  have s1 := (sp_new w s).later (bal (.cells #[.int .i64 0, .int .i64 0] 24))
  have s2 := sp_new (w.alloc (.cells #[.int .i64 s.1, .int .i64 s.2] 24)) (0, 0)
  simp only [World.size_alloc] at s2
  cases hm : mayB s.1 s.2 with
  | true =>
    have H : Hid (fitP s.1 s.2 = s) := Lib.hid (by unfold fitP; rw [if_pos hm])
    have HM := Lib.hid hm
    clear hm
    go_enter Try.func56, Try.ntmps56
    go_wp2_with fail
    refine (may_any s.1 s.2 _).mono ?_
    rintro e w1 ⟨rfl, h1⟩
    rw [HM.out]
    have t1 := s1.later h1
    have t2 := s2.later h1
    have t3 := t2.put s.1 s.2
    have c0 := t1.c0; have c1 := t1.c1; have d0 := t2.c0; have d1 := t2.c1; have f0 := t2.f0; have f1 := t2.f1
    go_wp2
    have e0 := t3.c0; have e1 := t3.c1
    refine bodyPost_ret (v := spV s) (by simp [results, Try.results56, go_sem, e0, e1]) rfl ⟨by rw [H.out], ?_⟩
    have hB := b2.trans (h1.mono b2.size)
    exact hB.trans ((kput w1 _ _ _).below (by simp) hB.size)
  | false =>
    have H : Hid (fitP s.1 s.2 = (0, 0)) := Lib.hid (by unfold fitP; rw [if_neg (by rw [hm]; simp)])
    have HM := Lib.hid hm
    clear hm
    go_enter Try.func56, Try.ntmps56
    go_wp2_with fail
    refine (may_any s.1 s.2 _).mono ?_
    rintro e w1 ⟨rfl, h1⟩
    rw [HM.out]
    have t1 := s1.later h1
    have t2 := s2.later h1
    have t3 := t2.put 0 0
    have c0 := t1.c0; have c1 := t1.c1; have d0 := t2.c0; have d1 := t2.c1; have f0 := t2.f0; have f1 := t2.f1
    go_wp2
    have e0 := t3.c0; have e1 := t3.c1
    refine bodyPost_ret (v := spV (0, 0)) (by simp [results, Try.results56, go_sem, e0, e1]) rfl ⟨by rw [H.out], ?_⟩
    have hB := b2.trans (h1.mono b2.size)
    exact hB.trans ((kput w1 _ _ _).below (by simp) hB.size)

theorem len_any (s : Int × Int) (w : World) : Calls Try.prog 35 #[spV s] w (RetI (lenI s) w) := by
  have b1 := bal (w := w) (.cells #[.int .i64 s.1, .int .i64 s.2] 24)
  have s1 := sp_new w s
  have hF := fit_any s (w.alloc (.cells #[.int .i64 s.1, .int .i64 s.2] 24))
  have ho := fit_ok s.1 s.2
  have H : Hid (lenI s = (fitP s.1 s.2).2 - (fitP s.1 s.2).1) := Lib.hid rfl
  generalize fitP s.1 s.2 = p at *
  obtain ⟨o1, o2, o3⟩ := ho
  go_enter Try.func35, Try.ntmps35
  go_wp2_with fail
  refine hF.mono ?_
  rintro e w1 ⟨rfl, h1⟩
  have t1 := s1.later h1
  have t2 := t1.put p.1 p.2
  have c0 := t1.c0; have c1 := t1.c1; have f0 := t1.f0; have f1 := t1.f1
  have d0 := t2.c0; have d1 := t2.c1
  clear hF
  go_wp2
  go_ret
  have hB := b1.trans (h1.mono b1.size)
  exact ⟨by rw [H.out]; rfl, hB.trans ((kput w1 _ _ _).below (by simp) hB.size)⟩

theorem two_new (w : World) (s t : Int × Int) : SpAt ((w.alloc (.cells #[.int .i64 s.1, .int .i64 s.2] 24)).alloc (.cells #[.int .i64 t.1, .int .i64 t.2] 24)) w.heap.size s ∧ SpAt ((w.alloc (.cells #[.int .i64 s.1, .int .i64 s.2] 24)).alloc (.cells #[.int .i64 t.1, .int .i64 t.2] 24)) (w.heap.size + 1) t ∧ Below w.heap.size w ((w.alloc (.cells #[.int .i64 s.1, .int .i64 s.2] 24)).alloc (.cells #[.int .i64 t.1, .int .i64 t.2] 24)) :=
  ⟨(sp_new w s).later (bal _), by simpa using sp_new (w.alloc (.cells #[.int .i64 s.1, .int .i64 s.2] 24)) t, (bal _).alloc (bal _).size _⟩


theorem three_new (w : World) (s t : Int × Int) : SpAt (((w.alloc (.cells #[.int .i64 s.1, .int .i64 s.2] 24)).alloc (.cells #[.int .i64 t.1, .int .i64 t.2] 24)).alloc (.cells #[.int .i64 0, .int .i64 0] 24)) w.heap.size s ∧ SpAt (((w.alloc (.cells #[.int .i64 s.1, .int .i64 s.2] 24)).alloc (.cells #[.int .i64 t.1, .int .i64 t.2] 24)).alloc (.cells #[.int .i64 0, .int .i64 0] 24)) (w.heap.size + 1) t ∧ SpAt (((w.alloc (.cells #[.int .i64 s.1, .int .i64 s.2] 24)).alloc (.cells #[.int .i64 t.1, .int .i64 t.2] 24)).alloc (.cells #[.int .i64 0, .int .i64 0] 24)) (w.heap.size + 1 + 1) (0, 0) ∧ Below w.heap.size w (((w.alloc (.cells #[.int .i64 s.1, .int .i64 s.2] 24)).alloc (.cells #[.int .i64 t.1, .int .i64 t.2] 24)).alloc (.cells #[.int .i64 0, .int .i64 0] 24)) := by
  obtain ⟨h1, h2, h3⟩ := two_new w s t
  exact ⟨h1.later (bal _), h2.later (bal _), by simpa using sp_new ((w.alloc (.cells #[.int .i64 s.1, .int .i64 s.2] 24)).alloc (.cells #[.int .i64 t.1, .int .i64 t.2] 24)) (0, 0), h3.alloc h3.size _⟩

/-- three boxes side by side -/
structure M3 (w0 : World) (B : Nat) (s t u : Int × Int) (w : World) : Prop where
  b0 : SpAt w B s
  b1 : SpAt w (B + 1) t
  b2 : SpAt w (B + 1 + 1) u
  below : Below w0.heap.size w0 w
  le : w0.heap.size ≤ B
theorem M3.later {w0 : World} {B : Nat} {s t u : Int × Int} {w w' : World} (h : M3 w0 B s t u w) (hb : Below w.heap.size w w') : M3 w0 B s t u w' :=
  ⟨h.b0.later hb, h.b1.later hb, h.b2.later hb, h.below.trans (hb.mono h.below.size), h.le⟩
theorem M3.put0 {w0 : World} {B : Nat} {s t u : Int × Int} {w : World} (h : M3 w0 B s t u w) (a b : Int) : M3 w0 B (a, b) t u ((w.setCell ⟨B, 0, none⟩ (.int .i64 a)).setCell ⟨B, 1, none⟩ (.int .i64 b)) :=
  ⟨h.b0.put a b, h.b1.keep (kput w B _ _) (by simp), h.b2.keep (kput w B _ _) (by simp; omega), h.below.trans ((kput w B _ _).below (by simpa using h.le) h.below.size), h.le⟩
theorem M3.put1 {w0 : World} {B : Nat} {s t u : Int × Int} {w : World} (h : M3 w0 B s t u w) (a b : Int) : M3 w0 B s (a, b) u ((w.setCell ⟨B + 1, 0, none⟩ (.int .i64 a)).setCell ⟨B + 1, 1, none⟩ (.int .i64 b)) :=
  ⟨h.b0.keep (kput w (B + 1) _ _) (by simp), h.b1.put a b, h.b2.keep (kput w (B + 1) _ _) (by simp), h.below.trans ((kput w (B + 1) _ _).below (by have := h.le; simp; omega) h.below.size), h.le⟩
theorem M3.put2 {w0 : World} {B : Nat} {s t u : Int × Int} {w : World} (h : M3 w0 B s t u w) (a b : Int) : M3 w0 B s t (a, b) ((w.setCell ⟨B + 1 + 1, 0, none⟩ (.int .i64 a)).setCell ⟨B + 1 + 1, 1, none⟩ (.int .i64 b)) :=
  ⟨h.b0.keep (kput w (B + 1 + 1) _ _) (by simp; omega), h.b1.keep (kput w (B + 1 + 1) _ _) (by simp), h.b2.put a b, h.below.trans ((kput w (B + 1 + 1) _ _).below (by have := h.le; simp; omega) h.below.size), h.le⟩

end Go.Proofs.Ytegbkeichkifnaa.sp
/-!   Package span: Meet.
-/
namespace Go.Proofs.Ytegbkeichkifnaa.sp
open Go.RowKit aid mem
attribute [local go_sem ↓] Go.wp_at_zero Go.wp_at_succ
set_option linter.unusedVariables false

set_option maxRecDepth 100000 in
set_option maxHeartbeats 1600000 in
theorem meet_any (s t : Int × Int) (w : World) : Calls Try.prog 76 #[spV s, spV t] w (RetS (meetP s t) w) := by
  obtain ⟨s1, s2, s3, b1⟩ := three_new w s t
  have H : Hid (meetP s t = betw (max (fitP s.1 s.2).1 (fitP t.1 t.2).1) (min (fitP s.1 s.2).2 (fitP t.1 t.2).2)) := Lib.hid rfl
  have M0 : M3 w w.heap.size s t (0, 0) (((w.alloc (.cells #[.int .i64 s.1, .int .i64 s.2] 24)).alloc (.cells #[.int .i64 t.1, .int .i64 t.2] 24)).alloc (.cells #[.int .i64 0, .int .i64 0] 24)) := ⟨s1, s2, s3, b1, Nat.le_refl _⟩
  clear s1 s2 s3 b1
  go_enter Try.func76, Try.ntmps76
  go_wp2_with fail
  generalize ((w.alloc (.cells #[.int .i64 s.1, .int .i64 s.2] 24)).alloc (.cells #[.int .i64 t.1, .int .i64 t.2] 24)).alloc (.cells #[.int .i64 0, .int .i64 0] 24) = W at *
  generalize w.heap.size = B at *
  have hp := fit_ok s.1 s.2
  have hq := fit_ok t.1 t.2
  have HF := fit_any s
  have HG := fit_any t
  generalize fitP s.1 s.2 = p at *
  generalize fitP t.1 t.2 = q at *
  have HP := Lib.hid hp
  have HQ := Lib.hid hq
  have HFF := Lib.hid HF
  have HGG := Lib.hid HG
  clear hp hq HF HG
  have M1 := M0.later (Below.refl _ _).drew
  clear M0
  have c0 := M1.b0.c0; have c1 := M1.b0.c1; have d0 := M1.b1.c0; have d1 := M1.b1.c1
  go_region_with (first
    | (go_at_call 56; refine (HFF.out _).mono ?_; rintro e w2 ⟨rfl, h2⟩; have M2 := M1.later h2; clear M1 h2 c0 c1 d0 d1; have d0 := M2.b1.c0; have d1 := M2.b1.c1)
    | (go_at_call 56; refine (HGG.out _).mono ?_; rintro e w3 ⟨rfl, h3⟩; have m3 := M2.later h3; clear M2 h3 d0 d1; have c0 := m3.b0.c0; have c1 := m3.b0.c1; have d0 := m3.b1.c0; have d1 := m3.b1.c1; have c2 := m3.b0.f0; have c3 := m3.b0.f1; have d2 := m3.b1.f0; have d3 := m3.b1.f1))
  all_goals
    have M4 := (m3.put0 p.1 p.2).put1 q.1 q.2
    clear m3 c0 c1 d0 d1 c2 c3 d2 d3
    generalize (((w3.setCell ⟨B, 0, none⟩ (.int .i64 p.1)).setCell ⟨B, 1, none⟩ (.int .i64 p.2)).setCell ⟨B + 1, 0, none⟩ (.int .i64 q.1)).setCell ⟨B + 1, 1, none⟩ (.int .i64 q.2) = w4 at *
    have c0 := M4.b0.c0; have c1 := M4.b0.c1; have d0 := M4.b1.c0; have d1 := M4.b1.c1
    go_wp2_with fail
    all_goals
      refine (between_any _ _ _).mono ?_
      rintro e w5 ⟨rfl, h5⟩
      rw [show betw _ _ = meetP s t from by rw [H.out]; congr 1 <;> omega]
      generalize meetP s t = r at *
      have M5 := M4.later h5
      clear M4 h5 c0 c1 d0 d1
      have e0 := M5.b2.c0; have e1 := M5.b2.c1; have e2 := M5.b2.f0; have e3 := M5.b2.f1
      go_wp2_with fail
      have M6 := M5.put2 r.1 r.2
      clear M5 e0 e1 e2 e3
      generalize (w5.setCell ⟨B + 1 + 1, 0, none⟩ (.int .i64 r.1)).setCell ⟨B + 1 + 1, 1, none⟩ (.int .i64 r.2) = w6 at *
      have e0 := M6.b2.c0; have e1 := M6.b2.c1
      exact bodyPost_ret (v := spV r) (by simp [results, Try.results76, go_sem, e0, e1]) rfl ⟨rfl, M6.below⟩
end Go.Proofs.Ytegbkeichkifnaa.sp
/-!   Package span: Touch, Holds, Below, From, Compare.
-/
namespace Go.Proofs.Ytegbkeichkifnaa.sp
open Go.RowKit aid mem
attribute [local go_sem ↓] Go.wp_at_zero Go.wp_at_succ
set_option linter.unusedVariables false

/-- two boxes side by side -/
structure M2 (w0 : World) (B : Nat) (s t : Int × Int) (w : World) : Prop where
  b0 : SpAt w B s
  b1 : SpAt w (B + 1) t
  below : Below w0.heap.size w0 w
  le : w0.heap.size ≤ B
theorem M2.later {w0 : World} {B : Nat} {s t : Int × Int} {w w' : World} (h : M2 w0 B s t w) (hb : Below w.heap.size w w') : M2 w0 B s t w' :=
  ⟨h.b0.later hb, h.b1.later hb, h.below.trans (hb.mono h.below.size), h.le⟩
theorem M2.all {w0 : World} {B : Nat} {s t : Int × Int} {w : World} (h : M2 w0 B s t w) : w.cell? ⟨B, 0, none⟩ = some (.int .i64 s.1) ∧ w.cell? ⟨B, 1, none⟩ = some (.int .i64 s.2) ∧ w.cell? ⟨B + 1, 0, none⟩ = some (.int .i64 t.1) ∧ w.cell? ⟨B + 1, 1, none⟩ = some (.int .i64 t.2) :=
  ⟨h.b0.c0, h.b0.c1, h.b1.c0, h.b1.c1⟩
theorem M2.put0 {w0 : World} {B : Nat} {s t : Int × Int} {w : World} (h : M2 w0 B s t w) (a b : Int) : M2 w0 B (a, b) t ((w.setCell ⟨B, 0, none⟩ (.int .i64 a)).setCell ⟨B, 1, none⟩ (.int .i64 b)) :=
  ⟨h.b0.put a b, h.b1.keep (kput w B _ _) (by simp), h.below.trans ((kput w B _ _).below (by simpa using h.le) h.below.size), h.le⟩
theorem M2.put1 {w0 : World} {B : Nat} {s t : Int × Int} {w : World} (h : M2 w0 B s t w) (a b : Int) : M2 w0 B s (a, b) ((w.setCell ⟨B + 1, 0, none⟩ (.int .i64 a)).setCell ⟨B + 1, 1, none⟩ (.int .i64 b)) :=
  ⟨h.b0.keep (kput w (B + 1) _ _) (by simp), h.b1.put a b, h.below.trans ((kput w (B + 1) _ _).below (by have := h.le; simp; omega) h.below.size), h.le⟩
theorem m2_new (w : World) (s t : Int × Int) : M2 w w.heap.size s t ((w.alloc (.cells #[.int .i64 s.1, .int .i64 s.2] 24)).alloc (.cells #[.int .i64 t.1, .int .i64 t.2] 24)) := by
  obtain ⟨h1, h2, h3⟩ := two_new w s t
  exact ⟨h1, h2, h3, Nat.le_refl _⟩
theorem m2_zero (w : World) (s : Int × Int) : M2 w w.heap.size s (0, 0) ((w.alloc (.cells #[.int .i64 s.1, .int .i64 s.2] 24)).alloc (.cells #[.int .i64 0, .int .i64 0] 24)) := m2_new w s (0, 0)

theorem eq_sp (a b c d : Int) (w : World) : (Op.equalIn 10000 24 (.agg #[.int .i64 a, .int .i64 b]) (.agg #[.int .i64 c, .int .i64 d])).run Try.prog w = .ok (a == c && b == d) w := by
  have u3 := Try.underlying3
  have a3 := Try.isAgg3
  have z3 := Try.sizeOf3
  have hS : Try.prog.underlying 24 = some (.struct (Try.prog.fieldsOf 24)) := by kernel_rfl
  rw [show (10000 : Nat) = 9999 + 1 from rfl, run_equalIn_agg w 9999 24 _ _ hS (by kernel_rfl)]
  simp only [Program.fieldsOf, Try.underlying24]
  go_simp
  by_cases h1 : a = c <;> by_cases h2 : b = d <;> simp [h1, h2]
theorem eq_guard : Try.prog.eqGuardType Try.prog.depth 24 = false := by kernel_rfl

set_option maxRecDepth 100000 in
set_option maxHeartbeats 800000 in
theorem touch_any (s t : Int × Int) (w : World) : Calls Try.prog 80 #[spV s, spV t] w (RetB (touchB s t) w) := by
  have M0 := m2_new w s t
  have H : Hid (touchB s t = (decide (lenI s ≠ 0) && decide (lenI t ≠ 0) && decide (s.1 ≤ t.2) && decide (t.1 ≤ s.2))) := Lib.hid rfl
  have HF := len_any s
  have HG := len_any t
  generalize lenI s = n at *
  generalize lenI t = m at *
  have HFF := Lib.hid HF
  have HGG := Lib.hid HG
  clear HF HG
  by_cases hn : n = 0
  · subst hn
    have H' : Hid (touchB s t = false) := Lib.hid (by rw [H.out]; simp)
    clear H
    go_enter Try.func80, Try.ntmps80
    go_wp2_with fail
    generalize (w.alloc (.cells #[.int .i64 s.1, .int .i64 s.2] 24)).alloc (.cells #[.int .i64 t.1, .int .i64 t.2] 24) = W at *
    generalize w.heap.size = B at *
    have c0 := M0.b0.c0; have c1 := M0.b0.c1
    refine (HFF.out _).mono ?_
    rintro e w1 ⟨rfl, h1⟩
    have M1 := M0.later h1
    go_wp2
    go_ret
    exact ⟨ret_b H'.out.symm, M1.below⟩
  · by_cases hm : m = 0
    · subst hm
      have hn1 : (n == 0) = false := by simpa using hn
      have H' : Hid (touchB s t = false) := Lib.hid (by rw [H.out]; simp)
      clear H hn
      go_enter Try.func80, Try.ntmps80
      go_wp2_with fail
      generalize (w.alloc (.cells #[.int .i64 s.1, .int .i64 s.2] 24)).alloc (.cells #[.int .i64 t.1, .int .i64 t.2] 24) = W at *
      generalize w.heap.size = B at *
      refine (HFF.out _).mono ?_
      rintro e w1 ⟨rfl, h1⟩
      have M1 := M0.later h1
      have c0 := M1.b1.c0; have c1 := M1.b1.c1
      go_wp2_with fail
      refine (HGG.out _).mono ?_
      rintro e w2 ⟨rfl, h2⟩
      have M2 := M1.later h2
      go_wp2
      go_ret
      exact ⟨ret_b H'.out.symm, M2.below⟩
    · have hn1 : (n == 0) = false := by simpa using hn
      have hm1 : (m == 0) = false := by simpa using hm
      have H' : Hid (touchB s t = (decide (s.1 ≤ t.2) && decide (t.1 ≤ s.2))) := Lib.hid (by rw [H.out]; simp [hn, hm])
      clear H hn hm
      go_enter Try.func80, Try.ntmps80
      go_wp2_with fail
      generalize (w.alloc (.cells #[.int .i64 s.1, .int .i64 s.2] 24)).alloc (.cells #[.int .i64 t.1, .int .i64 t.2] 24) = W at *
      generalize w.heap.size = B at *
      refine (HFF.out _).mono ?_
      rintro e w1 ⟨rfl, h1⟩
      have M1 := M0.later h1
      have c0 := M1.b1.c0; have c1 := M1.b1.c1
      go_wp2_with fail
      refine (HGG.out _).mono ?_
      rintro e w2 ⟨rfl, h2⟩
      have M2 := M1.later h2
      clear c0 c1
      have c0 := M2.b0.c0; have c1 := M2.b0.c1; have d0 := M2.b1.c0; have d1 := M2.b1.c1
      go_wp2
      all_goals
        go_ret
        exact ⟨ret_b (by rw [H'.out]; simp; omega), M2.below⟩

set_option maxHeartbeats 800000 in
theorem from_any (s : Int × Int) (o : Int) (w : World) : Calls Try.prog 38 #[spV s, .int .i64 o] w (RetS (fromP s o) w) := by
  have M0 := m2_zero w s
  have H : Hid (fromP s o = betw (max (fitP s.1 s.2).1 o) (fitP s.1 s.2).2) := Lib.hid rfl
  have HF := fit_any s
  generalize fitP s.1 s.2 = p at *
  have HFF := Lib.hid HF
  clear HF
  go_enter Try.func38, Try.ntmps38
  go_wp2_with fail
  generalize (w.alloc (.cells #[.int .i64 s.1, .int .i64 s.2] 24)).alloc (.cells #[.int .i64 0, .int .i64 0] 24) = W at *
  generalize w.heap.size = B at *
  refine (HFF.out _).mono ?_
  rintro e w1 ⟨rfl, h1⟩
  have M1 := M0.later h1
  have M1' := M1.put0 p.1 p.2
  have c0 := M1.b0.c0; have c1 := M1.b0.c1; have f0 := M1.b0.f0; have f1 := M1.b0.f1
  clear h1 M0 M1
  go_wp2_with fail
  all_goals
    refine (between_any _ _ _).mono ?_
    rintro e w2 ⟨rfl, h2⟩
    have M2 := M1'.later h2
    rw [show betw _ _ = fromP s o from by rw [H.out]; congr 1 <;> omega]
    generalize fromP s o = r at *
    have M3 := M2.put1 r.1 r.2
    have c0 := M2.b1.c0; have c1 := M2.b1.c1; have f0 := M2.b1.f0; have f1 := M2.b1.f1
    clear h2 M1' M2
    go_wp2_with fail
    have e0 := M3.b1.c0; have e1 := M3.b1.c1
    exact bodyPost_ret (v := spV r) (by simp [results, Try.results38, go_sem, e0, e1]) rfl ⟨rfl, M3.below⟩

end Go.Proofs.Ytegbkeichkifnaa.sp
/-!   Spans, as the reference has them; wider.
-/
namespace Go.Proofs.Ytegbkeichkifnaa.sp
open Go.RowKit aid mem
attribute [local go_sem ↓] Go.wp_at_zero Go.wp_at_succ
set_option linter.unusedVariables false

set_option maxHeartbeats 400000 in
theorem rmay_any (s : Int × Int) (w : World) : Calls Try.prog 70 #[spV s] w (RetB (mayB s.1 s.2) w) := by
  go_enter Try.func70, Try.ntmps70
  go_wp2
  all_goals
    go_ret
    exact ⟨ret_b (by unfold mayB; simp; omega), bal _⟩

set_option maxRecDepth 100000 in
set_option maxHeartbeats 800000 in
theorem rof_any (s : Int × Int) (w : World) : Calls Try.prog 50 #[spV s] w (RetS (ofP s) w) := by
  have M0 := m2_zero w s
  have HF := rmay_any s
  cases hm : mayB s.1 s.2 with
  | true =>
    rw [hm] at HF
    have HFF := Lib.hid HF
    clear HF
    by_cases he : s.1 = s.2
    · have H : Hid (ofP s = (0, 0)) := Lib.hid (by unfold ofP; rw [if_neg (fun x => x.2 he)])
      have he1 : (s.1 == s.2) = true := by simpa using he
      clear hm he
      go_enter Try.func50, Try.ntmps50
      go_wp2_with fail
      generalize (w.alloc (.cells #[.int .i64 s.1, .int .i64 s.2] 24)).alloc (.cells #[.int .i64 0, .int .i64 0] 24) = W at *
      generalize w.heap.size = B at *
      refine (HFF.out _).mono ?_
      rintro e w1 ⟨rfl, h1⟩
      have M1 := M0.later h1
      have M3 := M1.put1 0 0
      have c0 := M1.b0.c0; have c1 := M1.b0.c1; have d0 := M1.b1.c0; have d1 := M1.b1.c1; have f0 := M1.b1.f0; have f1 := M1.b1.f1
      clear h1 M0 M1
      go_wp2_with fail
      have e0 := M3.b1.c0; have e1 := M3.b1.c1
      exact bodyPost_ret (v := spV (0, 0)) (by simp [results, Try.results50, go_sem, e0, e1]) rfl ⟨by rw [H.out], M3.below⟩
    · have H : Hid (ofP s = s) := Lib.hid (by unfold ofP; rw [if_pos ⟨hm, he⟩])
      have he1 : (s.1 == s.2) = false := by simpa using he
      clear hm he
      go_enter Try.func50, Try.ntmps50
      go_wp2_with fail
      generalize (w.alloc (.cells #[.int .i64 s.1, .int .i64 s.2] 24)).alloc (.cells #[.int .i64 0, .int .i64 0] 24) = W at *
      generalize w.heap.size = B at *
      refine (HFF.out _).mono ?_
      rintro e w1 ⟨rfl, h1⟩
      have M1 := M0.later h1
      have M3 := M1.put1 s.1 s.2
      have c0 := M1.b0.c0; have c1 := M1.b0.c1; have d0 := M1.b1.c0; have d1 := M1.b1.c1; have f0 := M1.b1.f0; have f1 := M1.b1.f1
      clear h1 M0 M1
      go_wp2_with fail
      have e0 := M3.b1.c0; have e1 := M3.b1.c1
      exact bodyPost_ret (v := spV s) (by simp [results, Try.results50, go_sem, e0, e1]) rfl ⟨by rw [H.out], M3.below⟩
  | false =>
    rw [hm] at HF
    have HFF := Lib.hid HF
    clear HF
    have H : Hid (ofP s = (0, 0)) := Lib.hid (by unfold ofP; rw [if_neg (fun x => by rw [hm] at x; cases x.1)])
    clear hm
    go_enter Try.func50, Try.ntmps50
    go_wp2_with fail
    generalize (w.alloc (.cells #[.int .i64 s.1, .int .i64 s.2] 24)).alloc (.cells #[.int .i64 0, .int .i64 0] 24) = W at *
    generalize w.heap.size = B at *
    refine (HFF.out _).mono ?_
    rintro e w1 ⟨rfl, h1⟩
    have M1 := M0.later h1
    have M3 := M1.put1 0 0
    have d0 := M1.b1.c0; have d1 := M1.b1.c1; have f0 := M1.b1.f0; have f1 := M1.b1.f1
    clear h1 M0 M1
    go_wp2_with fail
    have e0 := M3.b1.c0; have e1 := M3.b1.c1
    exact bodyPost_ret (v := spV (0, 0)) (by simp [results, Try.results50, go_sem, e0, e1]) rfl ⟨by rw [H.out], M3.below⟩

set_option maxRecDepth 100000 in
theorem run_f0 (p : Int × Int) : ∀ w : World, (Instr.field 24 (.agg #[.int .i64 p.1, .int .i64 p.2]) 0).run Try.prog w = .ok (.int .i64 p.1) w := fun _ => by kernel_rfl
set_option maxRecDepth 100000 in
theorem run_f1 (p : Int × Int) : ∀ w : World, (Instr.field 24 (.agg #[.int .i64 p.1, .int .i64 p.2]) 1).run Try.prog w = .ok (.int .i64 p.2) w := fun _ => by kernel_rfl

/-- one box -/
structure M1 (w0 : World) (B : Nat) (s : Int × Int) (w : World) : Prop where
  b0 : SpAt w B s
  below : Below w0.heap.size w0 w
  le : w0.heap.size ≤ B
theorem M1.later {w0 : World} {B : Nat} {s : Int × Int} {w w' : World} (h : M1 w0 B s w) (hb : Below w.heap.size w w') : M1 w0 B s w' :=
  ⟨h.b0.later hb, h.below.trans (hb.mono h.below.size), h.le⟩
theorem M1.all {w0 : World} {B : Nat} {s : Int × Int} {w : World} (h : M1 w0 B s w) : w.cell? ⟨B, 0, none⟩ = some (.int .i64 s.1) ∧ w.cell? ⟨B, 1, none⟩ = some (.int .i64 s.2) := ⟨h.b0.c0, h.b0.c1⟩
theorem m1_new (w : World) (s : Int × Int) : M1 w w.heap.size s (w.alloc (.cells #[.int .i64 s.1, .int .i64 s.2] 24)) := ⟨sp_new w s, bal _, Nat.le_refl _⟩

set_option maxRecDepth 100000 in
set_option maxHeartbeats 800000 in
theorem rlen_any (s : Int × Int) (w : World) : Calls Try.prog 25 #[spV s] w (RetI (lenI s) w) := by
  have M0 := m1_new w s
  have HF := rof_any s
  have H : Hid ((ofP s).2 - (ofP s).1 = lenI s) := Lib.hid (len_of s)
  have ho := of_ok s
  generalize ofP s = p at *
  have HFF := Lib.hid HF
  obtain ⟨o1, o2, o3⟩ := ho
  clear HF
  have hw : IntKind.i64.wrap (p.2 - p.1) = p.2 - p.1 := IntWalk.i64_in _ (by omega)
  have fl0 := run_f0 p
  have fl1 := run_f1 p
  go_enter Try.func25, Try.ntmps25
  go_wp2_with fail
  generalize w.alloc (.cells #[.int .i64 s.1, .int .i64 s.2] 24) = W at *
  generalize w.heap.size = B at *
  have M1 := M0.later (Below.refl _ _).drew
  go_region_held3 (fun w' => w'.cell? ⟨B, 0, none⟩ = some (.int .i64 s.1) ∧ w'.cell? ⟨B, 1, none⟩ = some (.int .i64 s.2)) (first | exact M3.all | exact M2.all | exact M1.all | exact M0.all | go_keep) (first
    | (go_at_call 50; refine (HFF.out _).mono ?_; rintro e w2 ⟨rfl, h2⟩; have M2 := M1.later h2; clear M1 h2)
    | (go_at_call 50; refine (HFF.out _).mono ?_; rintro e w3 ⟨rfl, h3⟩; have M3 := M2.later h3; clear M2 h3))
  all_goals
    go_wp2
    go_ret
    exact ⟨ret_i H.out, M3.below⟩

theorem SpAt.set0 {w : World} {B : Nat} {s : Int × Int} (h : SpAt w B s) (a : Int) : SpAt (w.setCell ⟨B, 0, none⟩ (.int .i64 a)) B (a, s.2) := (heap_setCell_same _ B 0 _ _ _ h).trans rfl
theorem SpAt.set1 {w : World} {B : Nat} {s : Int × Int} (h : SpAt w B s) (a : Int) : SpAt (w.setCell ⟨B, 1, none⟩ (.int .i64 a)) B (s.1, a) := (heap_setCell_same _ B 1 _ _ _ h).trans rfl
theorem M2.s00 {w0 : World} {B : Nat} {s t : Int × Int} {w : World} (h : M2 w0 B s t w) (a : Int) : M2 w0 B (a, s.2) t (w.setCell ⟨B, 0, none⟩ (.int .i64 a)) :=
  ⟨h.b0.set0 a, h.b1.keep ((Kept.refl [B] w).setCell (.inl (by simp)) _) (by simp), h.below.trans (((Kept.refl [B] w).setCell (.inl (by simp)) _).below (by simpa using h.le) h.below.size), h.le⟩

/-- two boxes: the result's, and one that was made later -/
structure MQ (w0 : World) (R A : Nat) (r a : Int × Int) (w : World) : Prop where
  r : SpAt w R r
  a : SpAt w A a
  ne : R ≠ A
  le : w0.heap.size ≤ R ∧ w0.heap.size ≤ A
  below : Below w0.heap.size w0 w
theorem MQ.later {w0 : World} {R A : Nat} {r a : Int × Int} {w w' : World} (h : MQ w0 R A r a w) (hb : Below w.heap.size w w') : MQ w0 R A r a w' :=
  ⟨h.r.later hb, h.a.later hb, h.ne, h.le, h.below.trans (hb.mono h.below.size)⟩
theorem MQ.a0 {w0 : World} {R A : Nat} {r a : Int × Int} {w : World} (h : MQ w0 R A r a w) (x : Int) : MQ w0 R A r (x, a.2) (w.setCell ⟨A, 0, none⟩ (.int .i64 x)) := by
  have hk := (Kept.refl [A] w).setCell (p := ⟨A, 0, none⟩) (.inl (by simp)) (.int .i64 x)
  exact ⟨h.r.keep hk (by simpa using h.ne), h.a.set0 x, h.ne, h.le, h.below.trans (hk.below (by simpa using h.le.2) h.below.size)⟩
theorem MQ.a1 {w0 : World} {R A : Nat} {r a : Int × Int} {w : World} (h : MQ w0 R A r a w) (x : Int) : MQ w0 R A r (a.1, x) (w.setCell ⟨A, 1, none⟩ (.int .i64 x)) := by
  have hk := (Kept.refl [A] w).setCell (p := ⟨A, 1, none⟩) (.inl (by simp)) (.int .i64 x)
  exact ⟨h.r.keep hk (by simpa using h.ne), h.a.set1 x, h.ne, h.le, h.below.trans (hk.below (by simpa using h.le.2) h.below.size)⟩
theorem MQ.putr {w0 : World} {R A : Nat} {r a : Int × Int} {w : World} (h : MQ w0 R A r a w) (x y : Int) : MQ w0 R A (x, y) a ((w.setCell ⟨R, 0, none⟩ (.int .i64 x)).setCell ⟨R, 1, none⟩ (.int .i64 y)) :=
  ⟨h.r.put x y, h.a.keep (kput w R _ _) (by simpa using h.ne.symm), h.ne, h.le, h.below.trans ((kput w R _ _).below (by simpa using h.le.1) h.below.size)⟩
theorem MQ.puta {w0 : World} {R A : Nat} {r a : Int × Int} {w : World} (h : MQ w0 R A r a w) (x y : Int) : MQ w0 R A r (x, y) ((w.setCell ⟨A, 0, none⟩ (.int .i64 x)).setCell ⟨A, 1, none⟩ (.int .i64 y)) :=
  ⟨h.r.keep (kput w A _ _) (by simpa using h.ne), h.a.put x y, h.ne, h.le, h.below.trans ((kput w A _ _).below (by simpa using h.le.2) h.below.size)⟩

set_option maxRecDepth 100000 in
set_option maxHeartbeats 1600000 in
theorem rmeet_any (s t : Int × Int) (w : World) : Calls Try.prog 36 #[spV s, spV t] w (RetS (meetP s t) w) := by
  obtain ⟨s1, s2, s3, b1⟩ := three_new w s t
  have M0 : M3 w w.heap.size s t (0, 0) (((w.alloc (.cells #[.int .i64 s.1, .int .i64 s.2] 24)).alloc (.cells #[.int .i64 t.1, .int .i64 t.2] 24)).alloc (.cells #[.int .i64 0, .int .i64 0] 24)) := ⟨s1, s2, s3, b1, Nat.le_refl _⟩
  clear s1 s2 s3 b1
  have H : Hid (ofP (if (ofP s).1 < (ofP t).1 then (ofP t).1 else (ofP s).1, if (ofP t).2 < (ofP s).2 then (ofP t).2 else (ofP s).2) = meetP s t) := Lib.hid (rmeet_eq s t)
  have HF := rof_any s
  have HG := rof_any t
  generalize ofP s = p at *
  generalize ofP t = q at *
  have HFF := Lib.hid HF
  have HGG := Lib.hid HG
  clear HF HG
  generalize meetP s t = r at *
  by_cases hx : p.1 < q.1
  · by_cases hy : q.2 < p.2
    · have H' : Hid (ofP (q.1, q.2) = r) := Lib.hid (by rw [← H.out, if_pos hx, if_pos hy])
      clear H
      go_enter Try.func36, Try.ntmps36
      go_wp2_with fail
      generalize ((w.alloc (.cells #[.int .i64 s.1, .int .i64 s.2] 24)).alloc (.cells #[.int .i64 t.1, .int .i64 t.2] 24)).alloc (.cells #[.int .i64 0, .int .i64 0] 24) = W at *
      generalize hB : w.heap.size = B at M0 ⊢
      refine (HFF.out _).mono ?_
      rintro e w1 ⟨rfl, h1⟩
      have M1 := M0.later h1
      have c0 := M1.b1.c0; have c1 := M1.b1.c1
      have n1 := M1.b0.lt; have n2 := M1.b1.lt; have n3 := M1.b2.lt; have n4 := M1.below.size
      clear h1 M0
      go_wp2_with fail
      refine (HGG.out _).mono ?_
      rintro e w2 ⟨rfl, h2⟩
      have A2 := (sp_new w1 p).later h2
      have R2 := (M1.b2.later (bal (.cells #[.int .i64 p.1, .int .i64 p.2] 24))).later h2
      have n5 := A2.lt
      have MA : MQ w (B + 1 + 1) w1.heap.size (0, 0) p w2 := ⟨R2, A2, by omega, ⟨by omega, by omega⟩, ((M1.below.alloc n4 (.cells #[.int .i64 p.1, .int .i64 p.2] 24)).trans (h2.mono (by simp; omega)))⟩
      clear M1 c0 c1 h2 A2 R2
      have f0 := MA.a.f0; have f1 := MA.a.f1
      have c0 := MA.a.c0; have c1 := MA.a.c1
      go_wp2_with fail
      generalize w1.heap.size = A at *
      have MB := ((MA.a0 q.1).a1 q.2).later (bal (.cells #[.int .i64 q.1, .int .i64 q.2] 24))
      clear MA c0 c1 f0 f1
      generalize ((w2.setCell ⟨A, 0, none⟩ (.int .i64 q.1)).setCell ⟨A, 1, none⟩ (.int .i64 q.2)).alloc (.cells #[.int .i64 q.1, .int .i64 q.2] 24) = W3 at *
      refine (rof_any (q.1, q.2) _).mono ?_
      rintro e w4 ⟨rfl, h4⟩
      rw [H'.out]
      have MC := MB.later h4
      clear MB h4
      have MD := MC.putr r.1 r.2
      have e0 := MC.r.c0; have e1 := MC.r.c1; have g0 := MC.r.f0; have g1 := MC.r.f1
      clear MC
      go_wp2_with fail
      generalize (w4.setCell ⟨B + 1 + 1, 0, none⟩ (.int .i64 r.1)).setCell ⟨B + 1 + 1, 1, none⟩ (.int .i64 r.2) = w5 at *
      have k0 := MD.r.c0; have k1 := MD.r.c1
      have hb := MD.below
      clear MD
      exact bodyPost_ret (v := spV r) (by simp [results, Try.results36, go_sem, k0, k1]) rfl ⟨rfl, hb⟩
    · have H' : Hid (ofP (q.1, p.2) = r) := Lib.hid (by rw [← H.out, if_pos hx, if_neg hy])
      clear H
      go_enter Try.func36, Try.ntmps36
      go_wp2_with fail
      generalize ((w.alloc (.cells #[.int .i64 s.1, .int .i64 s.2] 24)).alloc (.cells #[.int .i64 t.1, .int .i64 t.2] 24)).alloc (.cells #[.int .i64 0, .int .i64 0] 24) = W at *
      generalize hB : w.heap.size = B at M0 ⊢
      refine (HFF.out _).mono ?_
      rintro e w1 ⟨rfl, h1⟩
      have M1 := M0.later h1
      have c0 := M1.b1.c0; have c1 := M1.b1.c1
      have n1 := M1.b0.lt; have n2 := M1.b1.lt; have n3 := M1.b2.lt; have n4 := M1.below.size
      clear h1 M0
      go_wp2_with fail
      refine (HGG.out _).mono ?_
      rintro e w2 ⟨rfl, h2⟩
      have A2 := (sp_new w1 p).later h2
      have R2 := (M1.b2.later (bal (.cells #[.int .i64 p.1, .int .i64 p.2] 24))).later h2
      have n5 := A2.lt
      have MA : MQ w (B + 1 + 1) w1.heap.size (0, 0) p w2 := ⟨R2, A2, by omega, ⟨by omega, by omega⟩, ((M1.below.alloc n4 (.cells #[.int .i64 p.1, .int .i64 p.2] 24)).trans (h2.mono (by simp; omega)))⟩
      clear M1 c0 c1 h2 A2 R2
      have f0 := MA.a.f0; have f1 := MA.a.f1
      have c0 := MA.a.c0; have c1 := MA.a.c1
      go_wp2_with fail
      generalize w1.heap.size = A at *
      have MB := (MA.a0 q.1).later (bal (.cells #[.int .i64 q.1, .int .i64 q.2] 24))
      clear MA c0 c1 f0 f1
      generalize (w2.setCell ⟨A, 0, none⟩ (.int .i64 q.1)).alloc (.cells #[.int .i64 q.1, .int .i64 q.2] 24) = W3 at *
      refine (rof_any (q.1, p.2) _).mono ?_
      rintro e w4 ⟨rfl, h4⟩
      rw [H'.out]
      have MC := MB.later h4
      clear MB h4
      have MD := MC.putr r.1 r.2
      have e0 := MC.r.c0; have e1 := MC.r.c1; have g0 := MC.r.f0; have g1 := MC.r.f1
      clear MC
      go_wp2_with fail
      generalize (w4.setCell ⟨B + 1 + 1, 0, none⟩ (.int .i64 r.1)).setCell ⟨B + 1 + 1, 1, none⟩ (.int .i64 r.2) = w5 at *
      have k0 := MD.r.c0; have k1 := MD.r.c1
      have hb := MD.below
      clear MD
      exact bodyPost_ret (v := spV r) (by simp [results, Try.results36, go_sem, k0, k1]) rfl ⟨rfl, hb⟩
  · by_cases hy : q.2 < p.2
    · have H' : Hid (ofP (p.1, q.2) = r) := Lib.hid (by rw [← H.out, if_neg hx, if_pos hy])
      clear H
      go_enter Try.func36, Try.ntmps36
      go_wp2_with fail
      generalize ((w.alloc (.cells #[.int .i64 s.1, .int .i64 s.2] 24)).alloc (.cells #[.int .i64 t.1, .int .i64 t.2] 24)).alloc (.cells #[.int .i64 0, .int .i64 0] 24) = W at *
      generalize hB : w.heap.size = B at M0 ⊢
      refine (HFF.out _).mono ?_
      rintro e w1 ⟨rfl, h1⟩
      have M1 := M0.later h1
      have c0 := M1.b1.c0; have c1 := M1.b1.c1
      have n1 := M1.b0.lt; have n2 := M1.b1.lt; have n3 := M1.b2.lt; have n4 := M1.below.size
      clear h1 M0
      go_wp2_with fail
      refine (HGG.out _).mono ?_
      rintro e w2 ⟨rfl, h2⟩
      have A2 := (sp_new w1 p).later h2
      have R2 := (M1.b2.later (bal (.cells #[.int .i64 p.1, .int .i64 p.2] 24))).later h2
      have n5 := A2.lt
      have MA : MQ w (B + 1 + 1) w1.heap.size (0, 0) p w2 := ⟨R2, A2, by omega, ⟨by omega, by omega⟩, ((M1.below.alloc n4 (.cells #[.int .i64 p.1, .int .i64 p.2] 24)).trans (h2.mono (by simp; omega)))⟩
      clear M1 c0 c1 h2 A2 R2
      have f0 := MA.a.f0; have f1 := MA.a.f1
      have c0 := MA.a.c0; have c1 := MA.a.c1
      go_wp2_with fail
      generalize w1.heap.size = A at *
      have MB := (MA.a1 q.2).later (bal (.cells #[.int .i64 q.1, .int .i64 q.2] 24))
      clear MA c0 c1 f0 f1
      generalize ((w2).setCell ⟨A, 1, none⟩ (.int .i64 q.2)).alloc (.cells #[.int .i64 q.1, .int .i64 q.2] 24) = W3 at *
      refine (rof_any (p.1, q.2) _).mono ?_
      rintro e w4 ⟨rfl, h4⟩
      rw [H'.out]
      have MC := MB.later h4
      clear MB h4
      have MD := MC.putr r.1 r.2
      have e0 := MC.r.c0; have e1 := MC.r.c1; have g0 := MC.r.f0; have g1 := MC.r.f1
      clear MC
      go_wp2_with fail
      generalize (w4.setCell ⟨B + 1 + 1, 0, none⟩ (.int .i64 r.1)).setCell ⟨B + 1 + 1, 1, none⟩ (.int .i64 r.2) = w5 at *
      have k0 := MD.r.c0; have k1 := MD.r.c1
      have hb := MD.below
      clear MD
      exact bodyPost_ret (v := spV r) (by simp [results, Try.results36, go_sem, k0, k1]) rfl ⟨rfl, hb⟩
    · have H' : Hid (ofP (p.1, p.2) = r) := Lib.hid (by rw [← H.out, if_neg hx, if_neg hy])
      clear H
      go_enter Try.func36, Try.ntmps36
      go_wp2_with fail
      generalize ((w.alloc (.cells #[.int .i64 s.1, .int .i64 s.2] 24)).alloc (.cells #[.int .i64 t.1, .int .i64 t.2] 24)).alloc (.cells #[.int .i64 0, .int .i64 0] 24) = W at *
      generalize hB : w.heap.size = B at M0 ⊢
      refine (HFF.out _).mono ?_
      rintro e w1 ⟨rfl, h1⟩
      have M1 := M0.later h1
      have c0 := M1.b1.c0; have c1 := M1.b1.c1
      have n1 := M1.b0.lt; have n2 := M1.b1.lt; have n3 := M1.b2.lt; have n4 := M1.below.size
      clear h1 M0
      go_wp2_with fail
      refine (HGG.out _).mono ?_
      rintro e w2 ⟨rfl, h2⟩
      have A2 := (sp_new w1 p).later h2
      have R2 := (M1.b2.later (bal (.cells #[.int .i64 p.1, .int .i64 p.2] 24))).later h2
      have n5 := A2.lt
      have MA : MQ w (B + 1 + 1) w1.heap.size (0, 0) p w2 := ⟨R2, A2, by omega, ⟨by omega, by omega⟩, ((M1.below.alloc n4 (.cells #[.int .i64 p.1, .int .i64 p.2] 24)).trans (h2.mono (by simp; omega)))⟩
      clear M1 c0 c1 h2 A2 R2
      have f0 := MA.a.f0; have f1 := MA.a.f1
      have c0 := MA.a.c0; have c1 := MA.a.c1
      go_wp2_with fail
      generalize w1.heap.size = A at *
      have MB := (MA).later (bal (.cells #[.int .i64 q.1, .int .i64 q.2] 24))
      clear MA c0 c1 f0 f1
      generalize (w2).alloc (.cells #[.int .i64 q.1, .int .i64 q.2] 24) = W3 at *
      refine (rof_any (p.1, p.2) _).mono ?_
      rintro e w4 ⟨rfl, h4⟩
      rw [H'.out]
      have MC := MB.later h4
      clear MB h4
      have MD := MC.putr r.1 r.2
      have e0 := MC.r.c0; have e1 := MC.r.c1; have g0 := MC.r.f0; have g1 := MC.r.f1
      clear MC
      go_wp2_with fail
      generalize (w4.setCell ⟨B + 1 + 1, 0, none⟩ (.int .i64 r.1)).setCell ⟨B + 1 + 1, 1, none⟩ (.int .i64 r.2) = w5 at *
      have k0 := MD.r.c0; have k1 := MD.r.c1
      have hb := MD.below
      clear MD
      exact bodyPost_ret (v := spV r) (by simp [results, Try.results36, go_sem, k0, k1]) rfl ⟨rfl, hb⟩
end Go.Proofs.Ytegbkeichkifnaa.sp
