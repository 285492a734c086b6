/-
  Rows of which all is known: append into room, copy, clear, append of zeros that grows (slices.Grow). Imports nothing of the program.
-/
import Derived.Test.YtjkjbhapkmamkaaKp
import Derived.IntWalk
import Derived.Lib.Hide
namespace Go.Proofs.Ytjkjbhapkmamkaa.mem
open Go.RowKit aid
set_option linter.unusedVariables false
set_option linter.unusedSimpArgs false

/-- a slice's row, all of it -/
structure SlP (w : World) (e : TypeId) (sz g off n cap : Nat) (xs P R : List Value) : Prop where
  heap : w.heap[g]? = some (.cells (P ++ xs ++ R).toArray e (0, 0))
  p : P.length = off
  len : xs.length = n * sz
  le : n ≤ cap
  most : cap ≤ maxLen
  room : cap * sz ≤ xs.length + R.length
theorem SlP.slr {w : World} {e : TypeId} {sz g off n cap : Nat} {xs P R : List Value} (h : SlP w e sz g off n cap xs P R) : SlR w e sz (some ⟨g, off, none⟩) n cap xs :=
  ⟨h.len, h.le, h.most, fun _ => ⟨g, off, _, rfl, h.heap, by
    have h1 := h.p; have h2 := h.room
    simp only [List.size_toArray, List.length_append]
    omega, fun j hj => by
    have h1 := h.p; have h2 := h.len
    rw [List.getElem?_toArray, List.append_assoc, List.getElem?_append_right (by omega), List.getElem?_append_left (by omega)]
    congr 1
    omega⟩⟩
theorem SlR.slp {w : World} {e : TypeId} {sz n cap : Nat} {a : Option Addr} {xs : List Value} (h : SlR w e sz a n cap xs) (h0 : 0 < cap) : ∃ g off P R, a = some ⟨g, off, none⟩ ∧ SlP w e sz g off n cap xs P R := by
  obtain ⟨g, off, cur, rfl, hg, h1, h2⟩ := h.rest h0
  have hmul : n * sz ≤ cap * sz := Nat.mul_le_mul_right _ h.le
  have hlen := h.len
  have e1 : cur.toList = cur.toList.take off ++ xs ++ cur.toList.drop (off + n * sz) := by
    have e2 : (cur.toList.drop off).take (n * sz) = xs := by
      apply List.ext_getElem?
      intro j
      rw [List.getElem?_take]
      by_cases hj : j < n * sz
      · rw [if_pos hj, List.getElem?_drop, ← h2 j hj]
        simp
      · rw [if_neg hj, List.getElem?_eq_none (by omega)]
    conv => lhs; rw [← List.take_append_drop off cur.toList]
    rw [List.append_assoc]
    congr 1
    conv => lhs; rw [← List.take_append_drop (n * sz) (cur.toList.drop off)]
    rw [e2, List.drop_drop]
  refine ⟨g, off, cur.toList.take off, cur.toList.drop (off + n * sz), rfl, ?_, ?_, hlen, h.le, h.most, ?_⟩
  · rw [← e1]; simpa using hg
  · rw [List.length_take, Array.length_toList]; omega
  · show cap * sz ≤ xs.length + (cur.toList.drop (off + n * sz)).length
    have hc : cur.toList.length = cur.size := Array.length_toList
    rw [List.length_drop, hc, hlen]; omega
theorem SlP.later {w w' : World} {e : TypeId} {sz g off n cap : Nat} {xs P R : List Value} (h : SlP w e sz g off n cap xs P R) (hb : Below w.heap.size w w') : SlP w' e sz g off n cap xs P R :=
  ⟨(hb.block _ (lt_of_block h.heap)).trans h.heap, h.p, h.len, h.le, h.most, h.room⟩
theorem addr_add (g off j : Nat) : (⟨g, off, none⟩ : Addr).add j = ⟨g, off + j, none⟩ := by unfold Addr.add; split <;> simp_all
theorem kept_setRow (w : World) (g : Nat) (cs : Array Value) : Kept [g] w (w.setRow g cs) := ⟨rfl, rfl, rfl, by simp [World.setRow], fun k _ hk => setRow_other w g k cs (fun e => hk (by simp [e]))⟩
section
variable {P : Program} (w : World)
/-- what a store of cells leaves -/
theorem run_store_row (g o : Nat) (t : TypeId) (A B C vs : List Value) (hg : w.heap[g]? = some (.cells (A ++ B ++ C).toArray t (0, 0))) (hA : A.length = o) (hB : B.length = vs.length) (h1 : ∀ v ∈ vs, v.oneCell' = true) :
    (storeCells ⟨g, o, none⟩ vs 0).run P w = .ok () (w.setRow g (A ++ vs ++ C).toArray) := by
  have := run_storeCells_at P g o t vs 0 _ w hg (by simp; omega) h1
  rw [this]
  congr 3
  simp only [Nat.add_zero]
  have e1 : (A ++ B ++ C).take o = A := by rw [List.append_assoc, ← hA]; exact List.take_left
  have e2 : (A ++ B ++ C).drop (o + vs.length) = C := by
    rw [show o + vs.length = (A ++ B).length by simp; omega]
    exact List.drop_left
  rw [e1, e2]
/-- append, where there is room -/
theorem run_append_p (t tx ty : TypeId) (e : TypeId) (i : TypeInfo) (sz : Nat) (ht : P.underlying t = some (.slice e)) (hi : P.info? e = some i) (hsize : i.size = sz) (g off n cap : Nat) (A B C : List Value)
    (hg : w.heap[g]? = some (.cells (A ++ B ++ C).toArray e (0, 0))) (hA : A.length = off + n * sz) (x : Value) (m : Nat) (news : List Value) (hs : Src P sz tx x m news w) (hB : B.length = m * sz) (hroom : n + m ≤ cap) :
    (Builtin.append_ #[t, tx] ty #[.slice (some ⟨g, off, none⟩) n cap, x]).run P w = .ok (.slice (some ⟨g, off, none⟩) (n + m) cap) (w.setRow g (A ++ news ++ C).toArray) := by
  subst hsize
  have hnl : news.length = m * i.size := by simpa using hs.newsLen
  have hst := run_store_row (P := P) w g (off + n * i.size) e A B C news hg hA (by rw [hB, hnl]) hs.one
  rcases hs.kind with ⟨e', hk⟩ | hk <;> simp [Builtin.append_, run_underlying ht, run_underlying hk, sizeOf, typeInfo, hi, hs.len, hroom, hs.cells, Addr.add_lit, hst]
theorem step_append_p {ops : Array Oper} {o : Oper} {a : Act} {K : Act → World → Prop} {Q : Exit → Act → World → Prop} {E : Prop} (hgd : o.guard = none) (s x : Operand) (t tx : TypeId)
    (ho : o.op = .call { callee := .builtin .append, args := #[s, x], argTypes := #[t, tx] })
    (e : TypeId) (i : TypeInfo) (sz : Nat) (ht : P.underlying t = some (.slice e)) (hi : P.info? e = some i) (hsize : i.size = sz) (g off n cap : Nat) (A B C : List Value) (hsv : a.eval s = .slice (some ⟨g, off, none⟩) n cap)
    (hg : w.heap[g]? = some (.cells (A ++ B ++ C).toArray e (0, 0))) (hA : A.length = off + n * sz) (xv : Value) (hx : a.eval x = xv) (m : Nat) (news : List Value) (hs : Src P sz tx xv m news w) (hB : B.length = m * sz) (hroom : n + m ≤ cap)
    (h : K (a.put o.dst (.slice (some ⟨g, off, none⟩) (n + m) cap)) (w.setRow g (A ++ news ++ C).toArray)) :
    if Region.wanted o (yielded ops a.tmps) = true then Oper.wp P o a w K Q else E := by
  have hw : Region.wanted o (yielded ops a.tmps) = true := by simp [Region.wanted, hgd]
  rw [if_pos hw]
  have hr := run_append_p (P := P) w t tx o.type e i sz ht hi hsize g off n cap A B C hg hA xv m news hs hB hroom
  unfold Oper.wp execOp
  simp only [ho, resolve, invoke, builtin, Sem.run_bind, Sem.run_pure, Result.andThen_ok, List.map_toArray, List.map_cons, List.map_nil, hsv, hx, hr]
  exact h
/-- copy, onto a part of a row -/
theorem run_copy_p (t tx ty : TypeId) (e : TypeId) (i : TypeInfo) (sz : Nat) (ht : P.underlying t = some (.slice e)) (hi : P.info? e = some i) (hsize : i.size = sz) (g off cap m : Nat) (A B C : List Value)
    (hg : w.heap[g]? = some (.cells (A ++ B ++ C).toArray e (0, 0))) (hA : A.length = off) (x : Value) (news : List Value) (hs : Src P sz tx x m news w) (hB : B.length = m * sz) :
    (Builtin.copy_ #[t, tx] ty #[.slice (some ⟨g, off, none⟩) m cap, x]).run P w = .ok (goInt m) (w.setRow g (A ++ news ++ C).toArray) := by
  subst hsize
  have hnl : news.length = m * i.size := by simpa using hs.newsLen
  have hst := run_store_row (P := P) w g off e A B C news hg hA (by rw [hB, hnl]) hs.one
  simp [Builtin.copy_, run_underlying ht, sizeOf, typeInfo, hi, hs.len, hs.cells, hst]
theorem wpList_copy_p {ops : Array Oper} {rest : List Oper} {o : Oper} {a : Act} {Q : Exit → Act → World → Prop} (hgd : o.guard = none) (s x : Operand) (t tx : TypeId)
    (ho : o.op = .call { callee := .builtin .copy, args := #[s, x], argTypes := #[t, tx] })
    (e : TypeId) (i : TypeInfo) (sz : Nat) (ht : P.underlying t = some (.slice e)) (hi : P.info? e = some i) (hsize : i.size = sz) (g off cap m : Nat) (A B C : List Value) (hsv : a.eval s = .slice (some ⟨g, off, none⟩) m cap)
    (hg : w.heap[g]? = some (.cells (A ++ B ++ C).toArray e (0, 0))) (hA : A.length = off) (xv : Value) (hx : a.eval x = xv) (news : List Value) (hs : Src P sz tx xv m news w) (hB : B.length = m * sz)
    (h : wpList P ops Q rest (a.put o.dst (goInt m)) (w.setRow g (A ++ news ++ C).toArray)) : wpList P ops Q (o :: rest) a w :=
  wpList_plain hgd fun _ hK => by
    have hr := run_copy_p (P := P) w t tx o.type e i sz ht hi hsize g off cap m A B C hg hA xv news hs hB
    unfold Oper.wp execOp
    simp only [ho, resolve, invoke, builtin, Sem.run_bind, Sem.run_pure, Result.andThen_ok, List.map_toArray, List.map_cons, List.map_nil, hsv, hx, hr]
    exact hK _ _ h
/-- nothing is copied -/
theorem run_copy_p0 (t tx ty : TypeId) (e : TypeId) (i : TypeInfo) (ht : P.underlying t = some (.slice e)) (hi : P.info? e = some i) (b : Option Addr) (cap : Nat) (c : Option Addr) (m k : Nat) :
    (Builtin.copy_ #[t, tx] ty #[.slice b 0 cap, .slice c m k]).run P w = .ok (goInt 0) w := by
  have hl : (Builtin.lenOf (.slice c m k)).run P w = .ok m w := rfl
  have hf : (Builtin.firstCells i.size 0 (.slice c m k)).run P w = .ok #[] w := by
    cases c with
    | none => simp [Builtin.firstCells]
    | some y => exact run_firstCells_some w i.size 0 y m k [] (by simp) (fun j v hj => by simp at hj)
  cases b <;> simp [Builtin.copy_, run_underlying ht, sizeOf, typeInfo, hi, hl, hf, storeCells]
theorem wpList_copy_p0 {ops : Array Oper} {rest : List Oper} {o : Oper} {a : Act} {Q : Exit → Act → World → Prop} (hgd : o.guard = none) (s x : Operand) (t tx : TypeId)
    (ho : o.op = .call { callee := .builtin .copy, args := #[s, x], argTypes := #[t, tx] })
    (e : TypeId) (i : TypeInfo) (ht : P.underlying t = some (.slice e)) (hi : P.info? e = some i) (b : Option Addr) (cap : Nat) (c : Option Addr) (m k : Nat) (hsv : a.eval s = .slice b 0 cap) (hx : a.eval x = .slice c m k)
    (h : wpList P ops Q rest (a.put o.dst (goInt 0)) w) : wpList P ops Q (o :: rest) a w :=
  wpList_plain hgd fun _ hK => by
    have hr := run_copy_p0 (P := P) w t tx o.type e i ht hi b cap c m k
    unfold Oper.wp execOp
    simp only [ho, resolve, invoke, builtin, Sem.run_bind, Sem.run_pure, Result.andThen_ok, List.map_toArray, List.map_cons, List.map_nil, hsv, hx, hr]
    exact hK _ _ h
/-- append of zeros that grows -/
theorem run_append_zeros (t tx ty : TypeId) (e : TypeId) (i : TypeInfo) (z : Value) (k : IntKind) (ht : P.underlying t = some (.slice e)) (htx : P.underlying tx = some (.int k)) (hi : P.info? e = some i) (hz : i.zero = some z) (hsz : 0 < i.size) (b : Option Addr) (n cap : Nat) (olds : List Value)
    (hold : (Builtin.firstCells i.size n (.slice b n cap)).run P w.drew = .ok olds.toArray w.drew) (m : Nat) (hm0 : 0 < m) (hg : cap < n + m) (h63 : n + m ≤ maxLen) (hbytes : (n + m) * i.bytes ≤ 140737488355328) :
    (Builtin.append_ #[t, tx] ty #[.slice b n cap, .int .i64 m]).run P w = .ok (.slice (some ⟨w.heap.size, 0, none⟩) (n + m) (grownCap w (n + m) cap e))
      (w.drew.alloc (.cells ((olds ++ (Builtin.zeroCells z.cells m).toList).toArray ++ Builtin.zeroCells z.cells (grownCap w (n + m) cap e - (n + m))) e)) := by
  have hn : ¬ (n + m ≤ cap) := by omega
  unfold maxLen at h63
  have hmb : m * i.bytes ≤ (n + m) * i.bytes := Nat.mul_le_mul_right _ (by omega)
  have h63' : ¬ (9223372036854775807 < ((n : Int) + (m : Int))) := by omega
  have hfit : Builtin.nextslicecap (n + m) cap * i.bytes ≤ 281474976710656 := growslice_fits (by omega) hbytes
  have h48' : ¬ (281474976710656 < Builtin.nextslicecap (n + m) cap * i.bytes) := by omega
  have hw : IntKind.i64.wrap (m : Int) = (m : Int) := IntWalk.i64_in _ (by omega)
  have h0 : ¬ ((m : Int) < 0) := by omega
  have h1 : ¬ (281474976710656 < (m : Int) * (i.bytes : Int)) := by
    have : ((m * i.bytes : Nat) : Int) = (m : Int) * (i.bytes : Int) := by simp
    omega
  have h2 : ¬ (m * i.size = 0) := by
    have := Nat.mul_pos hm0 hsz
    omega
  have h3 : ¬ (m = 0) := by omega
  have h4 : ¬ (i.size = 0) := by omega
  have hai : (asIntOf (.int .i64 (m : Int))).run P w = .ok (.i64, (m : Int)) w := rfl
  simp [Builtin.append_, run_underlying ht, run_underlying htx, sizeOf, typeInfo, zeroValue, hi, hz, asInt, hai, hw, h0, h1, h2, h3, h4, hn, h63', h48', Question.forced, hold, newRow, grownCap]
  congr 2
  apply Array.ext'
  simp [List.append_assoc]
theorem wpList_append_zeros {ops : Array Oper} {rest : List Oper} {o : Oper} {a : Act} {Q : Exit → Act → World → Prop} (hgd : o.guard = none) (s x : Operand) (t tx : TypeId)
    (ho : o.op = .call { callee := .builtin .append, args := #[s, x], argTypes := #[t, tx] })
    (e : TypeId) (i : TypeInfo) (z : Value) (k : IntKind) (ht : P.underlying t = some (.slice e)) (htx : P.underlying tx = some (.int k)) (hi : P.info? e = some i) (hz : i.zero = some z) (hsz : 0 < i.size) (b : Option Addr) (n cap : Nat) (olds : List Value) (hsv : a.eval s = .slice b n cap)
    (hold : (Builtin.firstCells i.size n (.slice b n cap)).run P w.drew = .ok olds.toArray w.drew) (m : Nat) (hx : a.eval x = .int .i64 m) (hm0 : 0 < m) (hg : cap < n + m) (h63 : n + m ≤ maxLen) (hbytes : (n + m) * i.bytes ≤ 140737488355328)
    (h : ∀ cap', n + m ≤ cap' → cap' ≤ maxLen → ∀ w', Hid (w' = w.drew.alloc (.cells ((olds ++ (Builtin.zeroCells z.cells m).toList).toArray ++ Builtin.zeroCells z.cells (cap' - (n + m))) e)) → wpList P ops Q rest (a.put o.dst (.slice (some ⟨w.heap.size, 0, none⟩) (n + m) cap')) w') : wpList P ops Q (o :: rest) a w :=
  wpList_plain hgd fun _ hK => by
    have hr := run_append_zeros (P := P) w t tx o.type e i z k ht htx hi hz hsz b n cap olds hold m hm0 hg h63 hbytes
    unfold Oper.wp execOp
    simp only [ho, resolve, invoke, builtin, Sem.run_bind, Sem.run_pure, Result.andThen_ok, List.map_toArray, List.map_cons, List.map_nil, hsv, hx, hr]
    exact hK _ _ (h _ (grownCap_ge w (n + m) cap e) (grownCap_le_maxLen w (n + m) cap e h63) _ (Lib.hid rfl))
/-- clear -/
theorem run_clear_p (t ty : TypeId) (e : TypeId) (i : TypeInfo) (z : Value) (ht : P.underlying t = some (.slice e)) (hi : P.info? e = some i) (hz : i.zero = some z) (g off cap m : Nat) (hm : 0 < m) (A B C : List Value)
    (hg : w.heap[g]? = some (.cells (A ++ B ++ C).toArray e (0, 0))) (hA : A.length = off) (hB : B.length = (Builtin.zeroCells z.cells m).toList.length) (h1 : ∀ u ∈ (Builtin.zeroCells z.cells m).toList, u.oneCell' = true) :
    (Builtin.clear_ #[t] ty #[.slice (some ⟨g, off, none⟩) m cap]).run P w = .ok (.tuple #[]) (w.setRow g (A ++ (Builtin.zeroCells z.cells m).toList ++ C).toArray) := by
  have hst := run_store_row (P := P) w g off e A B C _ hg hA hB h1
  obtain ⟨q, rfl⟩ : ∃ q, m = q + 1 := ⟨m - 1, by omega⟩
  simp [Builtin.clear_, run_underlying ht, zeroValue, typeInfo, hi, hz, hst]
theorem wpList_clear_p {ops : Array Oper} {rest : List Oper} {o : Oper} {a : Act} {Q : Exit → Act → World → Prop} (hgd : o.guard = none) (s : Operand) (t : TypeId)
    (ho : o.op = .call { callee := .builtin .clear, args := #[s], argTypes := #[t] })
    (e : TypeId) (i : TypeInfo) (z : Value) (ht : P.underlying t = some (.slice e)) (hi : P.info? e = some i) (hz : i.zero = some z) (g off cap m : Nat) (hm : 0 < m) (A B C : List Value) (hsv : a.eval s = .slice (some ⟨g, off, none⟩) m cap)
    (hg : w.heap[g]? = some (.cells (A ++ B ++ C).toArray e (0, 0))) (hA : A.length = off) (hB : B.length = (Builtin.zeroCells z.cells m).toList.length) (h1 : ∀ u ∈ (Builtin.zeroCells z.cells m).toList, u.oneCell' = true)
    (h : wpList P ops Q rest (a.put o.dst (.tuple #[])) (w.setRow g (A ++ (Builtin.zeroCells z.cells m).toList ++ C).toArray)) : wpList P ops Q (o :: rest) a w :=
  wpList_plain hgd fun _ hK => by
    have hr := run_clear_p (P := P) w t o.type e i z ht hi hz g off cap m hm A B C hg hA hB h1
    unfold Oper.wp execOp
    simp only [ho, resolve, invoke, builtin, Sem.run_bind, Sem.run_pure, Result.andThen_ok, List.map_toArray, List.map_cons, List.map_nil, hsv, hr]
    exact hK _ _ h
theorem step_append_q {ops : Array Oper} {o : Oper} {a : Act} {K : Act → World → Prop} {Q : Exit → Act → World → Prop} {E : Prop} (hgd : o.guard = none) (s x : Operand) (t tx : TypeId)
    (ho : o.op = .call { callee := .builtin .append, args := #[s, x], argTypes := #[t, tx] })
    (e : TypeId) (i : TypeInfo) (sz : Nat) (ht : P.underlying t = some (.slice e)) (hi : P.info? e = some i) (hsize : i.size = sz) (g off n cap : Nat) (A B C : List Value) (hsv : a.eval s = .slice (some ⟨g, off, none⟩) n cap)
    (hg : w.heap[g]? = some (.cells (A ++ B ++ C).toArray e (0, 0))) (hA : A.length = off + n * sz) (xv : Value) (hx : a.eval x = xv) (m : Nat) (news : List Value) (hs : Src P sz tx xv m news w) (hB : B.length = m * sz) (hroom : n + m ≤ cap)
    (h : ∀ w', Hid (w'.heap[g]? = some (.cells (A ++ news ++ C).toArray e (0, 0))) → Kept [g] w w' → K (a.put o.dst (.slice (some ⟨g, off, none⟩) (n + m) cap)) w') :
    if Region.wanted o (yielded ops a.tmps) = true then Oper.wp P o a w K Q else E :=
  step_append_p w hgd s x t tx ho e i sz ht hi hsize g off n cap A B C hsv hg hA xv hx m news hs hB hroom (h _ (Lib.hid (setRow_heap w g _ _ e _ hg)) (kept_setRow w g _))
theorem wpList_copy_q {ops : Array Oper} {rest : List Oper} {o : Oper} {a : Act} {Q : Exit → Act → World → Prop} (hgd : o.guard = none) (s x : Operand) (t tx : TypeId)
    (ho : o.op = .call { callee := .builtin .copy, args := #[s, x], argTypes := #[t, tx] })
    (e : TypeId) (i : TypeInfo) (sz : Nat) (ht : P.underlying t = some (.slice e)) (hi : P.info? e = some i) (hsize : i.size = sz) (g off cap m : Nat) (A B C : List Value) (hsv : a.eval s = .slice (some ⟨g, off, none⟩) m cap)
    (hg : w.heap[g]? = some (.cells (A ++ B ++ C).toArray e (0, 0))) (hA : A.length = off) (xv : Value) (hx : a.eval x = xv) (news : List Value) (hs : Src P sz tx xv m news w) (hB : B.length = m * sz)
    (h : ∀ w', Hid (w'.heap[g]? = some (.cells (A ++ news ++ C).toArray e (0, 0))) → Kept [g] w w' → wpList P ops Q rest (a.put o.dst (goInt m)) w') : wpList P ops Q (o :: rest) a w :=
  wpList_copy_p w hgd s x t tx ho e i sz ht hi hsize g off cap m A B C hsv hg hA xv hx news hs hB (h _ (Lib.hid (setRow_heap w g _ _ e _ hg)) (kept_setRow w g _))
end
section
variable {P : Program} (w : World)
/-- append onto a slice without room: a new row -/
theorem run_append_full (t tx ty : TypeId) (e : TypeId) (i : TypeInfo) (z : Value) (sz bytes : Nat) (ht : P.underlying t = some (.slice e)) (hi : P.info? e = some i) (hz : i.zero = some z)
    (hsize : i.size = sz) (hsz : 0 < sz) (hby : i.bytes = bytes) (hzs : z.cells.size = sz)
    (a : Option Addr) (n : Nat) (xs : List Value) (hown : SlR w e sz a n n xs) (x : Value) (m : Nat) (hm0 : 0 < m) (news : List Value) (hs : Src P sz tx x m news w)
    (h63 : n + m ≤ maxLen) (hbytes : (n + m) * bytes ≤ 140737488355328) :
    ∃ a' cap' w', (Builtin.append_ #[t, tx] ty #[.slice a n n, x]).run P w = .ok (.slice a' (n + m) cap') w' ∧ SlR w' e sz a' (n + m) cap' (xs ++ news) ∧ Below w.heap.size w w' ∧
      ∀ b ∈ blk a' cap', w.heap.size ≤ b := by
  have hnl : news.length = m * sz := by simpa using hs.newsLen
  have hxl : xs.length = n * sz := hown.len
  have h63' : ((n + m : Nat) : Int) ≤ 9223372036854775807 := by unfold maxLen at h63; omega
  have hs' : Src P i.size tx x m news w := by rw [hsize]; exact hs
  have hlen : (xs ++ news).length = (n + m) * sz := by rw [List.length_append, hxl, hnl, Nat.add_mul]
  have hold : (Builtin.firstCells i.size n (.slice a n n)).run P w.drew = .ok xs.toArray w.drew := by
    cases hc0 : n with
    | zero =>
      subst hc0
      have hx0 : xs = [] := List.eq_nil_of_length_eq_zero (by omega)
      subst hx0
      cases a with
      | none => exact run_firstCells_none w.drew i.size 0 0 0
      | some y => exact run_firstCells_some w.drew i.size 0 y 0 0 [] (by simp) (fun j v hj => by simp at hj)
    | succ c =>
      obtain ⟨g, off, cur, rfl, hg, h1, h2⟩ := hown.rest (by omega)
      refine run_firstCells_some w.drew i.size (c + 1) ⟨g, off, none⟩ (c + 1) (c + 1) xs (by rw [hxl, hsize, hc0]) ?_
      intro j v hj
      have hjl : j < n * sz := by rw [← hxl]; exact (List.getElem?_eq_some_iff.1 hj).1
      rw [addr_add]
      have := cell_of_row w g (off + j) cur e (0, 0) hg
      rw [h2 j hjl, hj] at this
      exact this
  have hr := run_append_grow_src (P := P) w t tx ty e i z ht hi hz a n n xs hold x m news hs' (by omega) h63' (by rw [hby]; exact growslice_fits (by omega) hbytes)
  have hge := grownCap_ge w (n + m) n e
  have hgm := grownCap_le_maxLen w (n + m) n e h63
  refine ⟨_, _, _, hr, ⟨hlen, hge, hgm, fun _ => ⟨w.heap.size, 0, _, rfl, heap_alloc_new w.drew _, ?_, fun j hj => ?_⟩⟩, ⟨rfl, rfl, rfl, by simp, fun k hk => Below.heap_alloc w.drew _ k hk⟩, fun b hb => ?_⟩
  · simp only [Array.size_append, List.size_toArray, size_zeroCells, hzs]
    rw [hlen]
    have : grownCap w (n + m) n e = (n + m) + (grownCap w (n + m) n e - (n + m)) := by omega
    generalize grownCap w (n + m) n e - (n + m) = q at *
    rw [this, Nat.add_mul]
    omega
  · rw [Nat.zero_add, Array.getElem?_append_left (by simp only [List.size_toArray]; omega), List.getElem?_toArray]
  · rw [blk_some _ _ _ (by omega)] at hb
    simp at hb
    omega
theorem step_append_full {ops : Array Oper} {o : Oper} {a : Act} {K : Act → World → Prop} {Q : Exit → Act → World → Prop} {E : Prop} (hgd : o.guard = none) (s x : Operand) (t tx : TypeId)
    (ho : o.op = .call { callee := .builtin .append, args := #[s, x], argTypes := #[t, tx] })
    (e : TypeId) (i : TypeInfo) (z : Value) (sz bytes : Nat) (ht : P.underlying t = some (.slice e)) (hi : P.info? e = some i) (hz : i.zero = some z)
    (hsize : i.size = sz) (hsz : 0 < sz) (hby : i.bytes = bytes) (hzs : z.cells.size = sz)
    (ad : Option Addr) (n : Nat) (xs : List Value) (hsv : a.eval s = .slice ad n n) (hown : SlR w e sz ad n n xs) (xv : Value) (hx : a.eval x = xv) (m : Nat) (hm0 : 0 < m) (news : List Value) (hs : Src P sz tx xv m news w)
    (h63 : n + m ≤ maxLen) (hbytes : (n + m) * bytes ≤ 140737488355328)
    (h : ∀ a' cap' w', SlR w' e sz a' (n + m) cap' (xs ++ news) → Below w.heap.size w w' → (∀ b ∈ blk a' cap', w.heap.size ≤ b) → K (a.put o.dst (.slice a' (n + m) cap')) w') :
    if Region.wanted o (yielded ops a.tmps) = true then Oper.wp P o a w K Q else E := by
  have hw : Region.wanted o (yielded ops a.tmps) = true := by simp [Region.wanted, hgd]
  rw [if_pos hw]
  obtain ⟨a', cap', w', hr, h2, h3, h4⟩ := run_append_full (P := P) w t tx o.type e i z sz bytes ht hi hz hsize hsz hby hzs ad n xs hown xv m hm0 news hs h63 hbytes
  unfold Oper.wp execOp
  simp only [ho, resolve, invoke, builtin, Sem.run_bind, Sem.run_pure, Result.andThen_ok, List.map_toArray, List.map_cons, List.map_nil, hsv, hx, hr]
  exact h a' cap' w' h2 h3 h4
end
/-- how a row is cut where something is set in a place's stead -/
theorem rep_cut (P xs R : List Value) (off n cap f t E m : Nat) (hP : P.length = off) (hx : xs.length = n * 2) (hr : cap * 2 ≤ xs.length + R.length) (hft : f ≤ t) (htn : t ≤ n) (hE : E = f + m) (hc : n + m ≤ cap) :
    ∃ A1 B1 C1 B2, P ++ xs ++ R = A1 ++ B1 ++ C1 ∧ A1.length = off + E * 2 ∧ B1.length = (n - t) * 2 ∧ A1 = (P ++ xs.take (f * 2)) ++ B2 ∧ B2.length = m * 2 ∧ (P ++ xs.take (f * 2)).length = off + f * 2 ∧ cap * 2 ≤ (E + (n - t)) * 2 + C1.length := by
  refine ⟨P ++ (xs ++ R).take (E * 2), ((xs ++ R).drop (E * 2)).take ((n - t) * 2), ((xs ++ R).drop (E * 2)).drop ((n - t) * 2), ((xs ++ R).take (E * 2)).drop (f * 2), ?_, ?_, ?_, ?_, ?_, ?_, ?_⟩
  · rw [List.append_assoc, List.append_assoc, List.append_assoc, List.take_append_drop, List.take_append_drop]
  · simp only [List.length_append, List.length_take, hP]; omega
  · simp only [List.length_append, List.length_take, List.length_drop]; omega
  · have : xs.take (f * 2) = ((xs ++ R).take (E * 2)).take (f * 2) := by
      rw [List.take_take, show min (f * 2) (E * 2) = f * 2 by omega, List.take_append_of_le_length (by omega)]
    rw [this, List.append_assoc, List.take_append_drop]
  · simp only [List.length_append, List.length_take, List.length_drop]; omega
  · simp only [List.length_append, List.length_take, hP]; omega
  · simp only [List.length_append, List.length_drop]; omega
end Go.Proofs.Ytjkjbhapkmamkaa.mem
