/-
  Package dup: what is told, in memory; one block more.
-/
import Derived.Test.YtegfmjkngbnnfaaDupO
import Derived.Test.YtegfmjkngbnnfaaSpnS
namespace Go.Proofs.Ytegfmjkngbnnfaa.dp
open Go.RowKit aid mem sq sp
set_option linter.unusedVariables false

/-- what is told, as a value -/
abbrev tdV (t : Td) (v : Value) : Value := .agg #[.int .i64 t.ack, .bool t.isDup, .int .i64 t.dup.1, .int .i64 t.dup.2, v, .int .i64 t.bad]
def TdAt (T : TypeId) (w : World) (B : Nat) (t : Td) (v : Value) : Prop := w.heap[B]? = some (.cells #[.int .i64 t.ack, .bool t.isDup, .int .i64 t.dup.1, .int .i64 t.dup.2, v, .int .i64 t.bad] T (0, 0))
section
variable {T : TypeId} {w w' : World} {B : Nat} {t : Td} {v : Value}
theorem TdAt.lt (h : TdAt T w B t v) : B < w.heap.size := lt_of_block h
theorem TdAt.later (h : TdAt T w B t v) (hb : Below w.heap.size w w') : TdAt T w' B t v := (hb.block B h.lt).trans h
theorem TdAt.keep (h : TdAt T w B t v) {S : List Nat} (hk : Kept S w w') (hB : B ∉ S) : TdAt T w' B t v := hk.heap hB h
theorem TdAt.fz (h : TdAt T w B t v) (i : Nat) : w.frozen? ⟨B, i, none⟩ = false := by simp [World.frozen?, show w.heap[B]? = _ from h]
theorem TdAt.c0 (h : TdAt T w B t v) : w.cell? ⟨B, 0, none⟩ = some (.int .i64 t.ack) := (cell_of_row w B 0 _ _ (0, 0) h).trans rfl
theorem TdAt.c1 (h : TdAt T w B t v) : w.cell? ⟨B, 1, none⟩ = some (.bool t.isDup) := (cell_of_row w B 1 _ _ (0, 0) h).trans rfl
theorem TdAt.c2 (h : TdAt T w B t v) : w.cell? ⟨B, 2, none⟩ = some (.int .i64 t.dup.1) := (cell_of_row w B 2 _ _ (0, 0) h).trans rfl
theorem TdAt.c3 (h : TdAt T w B t v) : w.cell? ⟨B, 3, none⟩ = some (.int .i64 t.dup.2) := (cell_of_row w B 3 _ _ (0, 0) h).trans rfl
theorem TdAt.c4 (h : TdAt T w B t v) : w.cell? ⟨B, 4, none⟩ = some v := (cell_of_row w B 4 _ _ (0, 0) h).trans rfl
theorem TdAt.c5 (h : TdAt T w B t v) : w.cell? ⟨B, 5, none⟩ = some (.int .i64 t.bad) := (cell_of_row w B 5 _ _ (0, 0) h).trans rfl
theorem TdAt.s1 (h : TdAt T w B t v) (b : Bool) : TdAt T (w.setCell ⟨B, 1, none⟩ (.bool b)) B { t with isDup := b } v := (heap_setCell_same _ B 1 _ _ _ h).trans rfl
theorem TdAt.s2 (h : TdAt T w B t v) (x y : Int) : TdAt T ((w.setCell ⟨B, 2, none⟩ (.int .i64 x)).setCell ⟨B, 3, none⟩ (.int .i64 y)) B { t with dup := (x, y) } v :=
  (heap_setCell_same _ B 3 _ _ _ (heap_setCell_same _ B 2 _ _ _ h)).trans rfl
theorem TdAt.s4 (h : TdAt T w B t v) (v' : Value) (l : List (Int × Int)) : TdAt T (w.setCell ⟨B, 4, none⟩ v') B { t with sacks := l } v' := (heap_setCell_same _ B 4 _ _ _ h).trans rfl
theorem TdAt.s5 (h : TdAt T w B t v) (x : Int) : TdAt T (w.setCell ⟨B, 5, none⟩ (.int .i64 x)) B { t with bad := x } v := (heap_setCell_same _ B 5 _ _ _ h).trans rfl
end
theorem td_new (T : TypeId) (w : World) (t : Td) (v : Value) : TdAt T (w.alloc (.cells #[.int .i64 t.ack, .bool t.isDup, .int .i64 t.dup.1, .int .i64 t.dup.2, v, .int .i64 t.bad] T)) w.heap.size t v := heap_alloc_new w _
/-- what Look hands back -/
def LookP (t : Td) (c : Int) (w : World) (e : Ending) (w' : World) : Prop :=
  ∃ v, e = .returned (.tuple #[tdV t v, .int .i64 c]) ∧ w'.ownsRow w.heap.size 26 2 v t.sacks.length (spCells t.sacks) ∧ Below w.heap.size w w'

/-! ### One block more -/
def tK (ack nxt : Int) (l : List Bk) (o k : Nat) : Td :=
  ⟨ack, dupB ack nxt l, dupP ack nxt l, sacksP ack nxt ((l.drop o).take (k - o)), ((k - o : Nat) : Int) - ((sacksP ack nxt ((l.drop o).take (k - o))).length : Int)⟩
theorem take_drop_snoc (l : List Bk) (o k : Nat) (ho : o ≤ k) (hk : k < l.length) : (l.drop o).take (k + 1 - o) = (l.drop o).take (k - o) ++ [l.getD k (0, 0)] := by
  rw [show k + 1 - o = (k - o) + 1 from by omega, List.take_succ_eq_append_getElem (by simp; omega)]
  congr 1
  simp [List.getD, List.getElem_drop, show o + (k - o) = k from by omega, hk]
theorem tK_yes {ack nxt : Int} {l : List Bk} {o k : Nat} (ho : o ≤ k) (hk : k < l.length) (h : isS ack nxt (frm ack (l.getD k (0, 0))) = true) :
    tK ack nxt l o (k + 1) = { tK ack nxt l o k with sacks := (tK ack nxt l o k).sacks ++ [frm ack (l.getD k (0, 0))] } := by
  unfold tK
  rw [take_drop_snoc l o k ho hk, sacks_snoc, if_pos h]
  simp
  omega
theorem tK_no {ack nxt : Int} {l : List Bk} {o k : Nat} (ho : o ≤ k) (hk : k < l.length) (h : isS ack nxt (frm ack (l.getD k (0, 0))) = false) :
    tK ack nxt l o (k + 1) = { tK ack nxt l o k with bad := (tK ack nxt l o k).bad + 1 } := by
  unfold tK
  rw [take_drop_snoc l o k ho hk, sacks_snoc, if_neg (by rw [h]; simp)]
  simp
  omega
theorem tK_bd (ack nxt : Int) (l : List Bk) (o k : Nat) : (tK ack nxt l o k).sacks.length ≤ k ∧ 0 ≤ (tK ack nxt l o k).bad ∧ (tK ack nxt l o k).bad ≤ k := by
  have h := sacks_le ack nxt ((l.drop o).take (k - o))
  have h2 : ((l.drop o).take (k - o)).length ≤ k - o := List.length_take_le _ _
  simp only [tK]
  omega
theorem tK_start (ack nxt : Int) (l : List Bk) (o : Nat) : tK ack nxt l o o = ⟨ack, dupB ack nxt l, dupP ack nxt l, [], 0⟩ := by
  unfold tK; simp [sacksP]
theorem tK_end (una nxt num : Int) (l : List Bk) (h : errP una nxt num = 0) : tK (runw una num) nxt l (if dupB (runw una num) nxt l = true then 1 else 0) l.length = lookP una nxt num l := by
  unfold lookP restP
  rw [if_pos h]
  by_cases hd : dupB (runw una num) nxt l = true
  · have hl : l ≠ [] := by
      rintro rfl
      simp [dupB, dupP] at hd
    have hl1 : 1 ≤ l.length := by cases l with | nil => exact absurd rfl hl | cons x l => simp
    rw [if_pos hd, if_pos hd]
    unfold tK
    rw [List.take_of_length_le (by simp)]
    simp
  · rw [if_neg hd, if_neg hd]
    unfold tK
    rw [List.take_of_length_le (by simp)]
    simp

/-- Look's memory within its loop -/
structure LS (w : World) (base R Ba Bx T Bl Bn : Nat) (ack nxt : Int) (a : Option Addr) (n cap : Nat) (t : Td) (v : Value) (W : World) : Prop where
  bl : W.heap[Bl]? = some (.cells #[.slice a n cap] 23 (0, 0))
  bn : W.heap[Bn]? = some (.cells #[.int .i64 ack] 3 (0, 0))
  ba : W.heap[Ba]? = some (.cells #[.int .i64 ack] 3 (0, 0))
  bx : W.heap[Bx]? = some (.cells #[.int .i64 nxt] 3 (0, 0))
  res : TdAt 29 W R noTd (.slice none 0 0)
  at_ : TdAt 29 W T t v
  own : W.ownsRow base 26 2 v t.sacks.length (spCells t.sacks)
  below : Below w.heap.size w W
  hb : base ≤ W.heap.size
/-- where its boxes lie -/
structure LD (w : World) (base R Ba Bx T Bl Bn : Nat) : Prop where
  lts : R < base ∧ Ba < base ∧ Bx < base ∧ T < base ∧ Bl < base ∧ Bn < base
  ne : R ≠ T ∧ Ba ≠ T ∧ Bx ≠ T ∧ Bl ≠ T ∧ Bn ≠ T
  ge : w.heap.size ≤ T ∧ w.heap.size ≤ base ∧ w.heap.size ≤ R
section
variable {w : World} {base R Ba Bx T Bl Bn : Nat} {ack nxt : Int} {a : Option Addr} {n cap : Nat} {t : Td} {v : Value} {W W' : World}
theorem LS.later (h : LS w base R Ba Bx T Bl Bn ack nxt a n cap t v W) (hb : Below W.heap.size W W') : LS w base R Ba Bx T Bl Bn ack nxt a n cap t v W' :=
  ⟨(hb.block _ (lt_of_block h.bl)).trans h.bl, (hb.block _ (lt_of_block h.bn)).trans h.bn, (hb.block _ (lt_of_block h.ba)).trans h.ba, (hb.block _ (lt_of_block h.bx)).trans h.bx, h.res.later hb, h.at_.later hb, own_later h.own hb, h.below.trans (hb.mono h.below.size), Nat.le_trans h.hb hb.size⟩
theorem LS.rd (h : LS w base R Ba Bx T Bl Bn ack nxt a n cap t v W) {l : List Bk} (hl : SlB w a n cap l) (hk : -9223372036854775808 ≤ ack ∧ ack ≤ 9223372036854775807) : Rd W Bl Bn ack a n cap l := ⟨h.bl, h.bn, hl.later h.below, hk⟩
theorem LS.cba (h : LS w base R Ba Bx T Bl Bn ack nxt a n cap t v W) : W.cell? ⟨Ba, 0, none⟩ = some (.int .i64 ack) := (cell_of_row W Ba 0 _ _ (0, 0) h.ba).trans rfl
theorem LS.cbx (h : LS w base R Ba Bx T Bl Bn ack nxt a n cap t v W) : W.cell? ⟨Bx, 0, none⟩ = some (.int .i64 nxt) := (cell_of_row W Bx 0 _ _ (0, 0) h.bx).trans rfl
/-- a store into what is told -/
theorem LS.put (h : LS w base R Ba Bx T Bl Bn ack nxt a n cap t v W) (hd : LD w base R Ba Bx T Bl Bn) (i : Nat) (u : Value) {t' : Td} (ht : TdAt 29 (W.setCell ⟨T, i, none⟩ u) T t' v) (hs : t'.sacks = t.sacks) :
    LS w base R Ba Bx T Bl Bn ack nxt a n cap t' v (W.setCell ⟨T, i, none⟩ u) := by
  have hk : Kept [T] W (W.setCell ⟨T, i, none⟩ u) := (Kept.refl [T] W).setCell (.inl (by simp)) u
  obtain ⟨n1, n2, n3, n4, n5⟩ := hd.ne
  refine ⟨hk.heap (by simpa using n4) h.bl, hk.heap (by simpa using n5) h.bn, hk.heap (by simpa using n2) h.ba, hk.heap (by simpa using n3) h.bx, h.res.keep hk (by simpa using n1), ht, ?_, h.below.trans (hk.below (by simpa using hd.ge.1) h.below.size), by simpa using h.hb⟩
  rw [hs]
  exact own_step h.own (fun k o hk' ho => hk.heap (by have := (own_in h.own hk').2; have := hd.lts; simp; omega) ho)
/-- one span more -/
theorem LS.app (h : LS w base R Ba Bx T Bl Bn ack nxt a n cap t v W) (hd : LD w base R Ba Bx T Bl Bn) {s : Int × Int} {w1 : World} {v' : Value}
    (ho : w1.ownsRow base 26 2 v' (t.sacks.length + 1) (spCells t.sacks ++ [.int .i64 s.1, .int .i64 s.2])) (hg : W.grownBy w1 v.ownBlock) (hw : v'.ownBlock = v.ownBlock ∨ v'.ownBlock = some W.heap.size) :
    LS w base R Ba Bx T Bl Bn ack nxt a n cap { t with sacks := t.sacks ++ [s] } v' (w1.setCell ⟨T, 4, none⟩ v') := by
  have nv : ∀ k, k < base → v.ownBlock ≠ some k := fun k hk e => by have := (own_in h.own e).2; omega
  have nv' : ∀ k, v'.ownBlock = some k → base ≤ k := fun k hk => (own_in ho hk).2
  obtain ⟨l1, l2, l3, l4, l5, l6⟩ := hd.lts
  obtain ⟨n1, n2, n3, n4, n5⟩ := hd.ne
  have hh := h.hb
  have kb : ∀ {k : Nat} {o : Obj}, k < base → W.heap[k]? = some o → w1.heap[k]? = some o := fun {k o} hk ho => (hg.block k (by omega) (fun e => nv k hk e.symm)).trans ho
  have hk : Kept [T] w1 (w1.setCell ⟨T, 4, none⟩ v') := (Kept.refl [T] w1).setCell (.inl (by simp)) v'
  have hB1 : Below base W w1 := below_grown hg hh (fun k hk => (own_in h.own hk).2)
  refine ⟨hk.heap (by simpa using n4) (kb l5 h.bl), hk.heap (by simpa using n5) (kb l6 h.bn), hk.heap (by simpa using n2) (kb l2 h.ba), hk.heap (by simpa using n3) (kb l3 h.bx), TdAt.keep (w := w1) (kb l1 h.res) hk (by simpa using n1), TdAt.s4 (w := w1) (t := t) (v := v) (kb l4 h.at_) v' _, ?_, (h.below.trans (hB1.mono hd.ge.2.1)).trans (hk.below (by simpa using hd.ge.1) (Nat.le_trans h.below.size hg.size)), by simpa using Nat.le_trans hh hg.size⟩
  rw [show ({ t with sacks := t.sacks ++ [s] } : Td).sacks = t.sacks ++ [s] from rfl, List.length_append, List.length_singleton, spCells_snoc]
  exact own_step ho (fun k o hk' ho' => hk.heap (by have := nv' k hk'; simp; omega) ho')
theorem LS.app4 (h : LS w base R Ba Bx T Bl Bn ack nxt a n cap t v W) (hd : LD w base R Ba Bx T Bl Bn) {s : Int × Int} {w1 : World} {v' : Value}
    (ho : w1.ownsRow base 26 2 v' (t.sacks.length + 1) (spCells t.sacks ++ [.int .i64 s.1, .int .i64 s.2])) (hg : W.grownBy w1 v.ownBlock) : TdAt 29 w1 T t v := by
  have := hd.lts
  have := h.hb
  exact (hg.block T (by omega) (fun e => by have := (own_in h.own e.symm).2; omega)).trans h.at_
/-- what is told, handed back -/
theorem LS.done (h : LS w base R Ba Bx T Bl Bn ack nxt a n cap t v W) (hd : LD w base R Ba Bx T Bl Bn) :
    TdAt 29 ((((((W.setCell ⟨R, 0, none⟩ (.int .i64 t.ack)).setCell ⟨R, 1, none⟩ (.bool t.isDup)).setCell ⟨R, 2, none⟩ (.int .i64 t.dup.1)).setCell ⟨R, 3, none⟩ (.int .i64 t.dup.2)).setCell ⟨R, 4, none⟩ v).setCell ⟨R, 5, none⟩ (.int .i64 t.bad)) R t v ∧
    LookP t 0 w (.returned (.tuple #[tdV t v, .int .i64 0])) ((((((W.setCell ⟨R, 0, none⟩ (.int .i64 t.ack)).setCell ⟨R, 1, none⟩ (.bool t.isDup)).setCell ⟨R, 2, none⟩ (.int .i64 t.dup.1)).setCell ⟨R, 3, none⟩ (.int .i64 t.dup.2)).setCell ⟨R, 4, none⟩ v).setCell ⟨R, 5, none⟩ (.int .i64 t.bad)) := by
  have hk : Kept [R] W ((((((W.setCell ⟨R, 0, none⟩ (.int .i64 t.ack)).setCell ⟨R, 1, none⟩ (.bool t.isDup)).setCell ⟨R, 2, none⟩ (.int .i64 t.dup.1)).setCell ⟨R, 3, none⟩ (.int .i64 t.dup.2)).setCell ⟨R, 4, none⟩ v).setCell ⟨R, 5, none⟩ (.int .i64 t.bad)) :=
    ((((((Kept.refl [R] W).setCell (.inl (by simp)) _).setCell (.inl (by simp)) _).setCell (.inl (by simp)) _).setCell (.inl (by simp)) _).setCell (.inl (by simp)) _).setCell (.inl (by simp)) _
  have q0 := (heap_setCell_same _ R 0 _ _ (.int .i64 t.ack) h.res).trans rfl
  have q1 := (heap_setCell_same _ R 1 _ _ (.bool t.isDup) q0).trans rfl
  have q2 := (heap_setCell_same _ R 2 _ _ (.int .i64 t.dup.1) q1).trans rfl
  have q3 := (heap_setCell_same _ R 3 _ _ (.int .i64 t.dup.2) q2).trans rfl
  have q4 := (heap_setCell_same _ R 4 _ _ v q3).trans rfl
  have q5 := (heap_setCell_same _ R 5 _ _ (.int .i64 t.bad) q4).trans rfl
  refine ⟨q5, v, rfl, own_base (own_step h.own (fun k o hk' ho => hk.heap (by have := (own_in h.own hk').2; have := hd.lts; simp; omega) ho)) (fun k hk' => Nat.le_trans hd.ge.2.1 (own_in h.own hk').2), h.below.trans (hk.below (by simpa using hd.ge.2.2) h.below.size)⟩
end
end Go.Proofs.Ytegfmjkngbnnfaa.dp
