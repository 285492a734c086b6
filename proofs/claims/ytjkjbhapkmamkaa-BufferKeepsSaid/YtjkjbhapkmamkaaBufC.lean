/-
  copy, of bytes that are read, onto a part of a row of which all is known. Imports nothing of the program.
-/
import Derived.Test.YtjkjbhapkmamkaaCpy
namespace Go.Proofs.Ytjkjbhapkmamkaa.mem
open Go.RowKit aid
set_option linter.unusedVariables false
set_option linter.unusedSimpArgs false

theorem ints_one (k : IntKind) (l : List Int) : ∀ u ∈ ints k l, u.oneCell' = true := by
  intro u hu
  obtain ⟨_, _, rfl⟩ := List.mem_map.1 hu
  rfl
theorem ints_len (k : IntKind) (l : List Int) : (ints k l).length = l.length := by simp [ints]
theorem ints_take (k : IntKind) (l : List Int) (n : Nat) : (ints k l).take n = ints k (l.take n) := by simp [ints]
theorem ints_drop (k : IntKind) (l : List Int) (n : Nat) : (ints k l).drop n = ints k (l.drop n) := by simp [ints]
/-- a row's piece is a slice that is read -/
theorem SlR.sla {w : World} {e : TypeId} {k : IntKind} {a : Option Addr} {n cap : Nat} {l : List Int} (h : SlR w e 1 a n cap (ints k l)) : SlA k w a n cap l := by
  have hl : l.length = n := by have := h.len; rw [ints_len] at this; omega
  refine ⟨hl, h.le, h.most, fun ha => ?_, fun h0 => ?_⟩
  · by_cases h0 : cap = 0
    · exact h0
    · obtain ⟨g, off, cur, hx, _⟩ := h.rest (by omega)
      rw [ha] at hx; cases hx
  · obtain ⟨g, off, ha, hc⟩ := h.cell h0
    refine ⟨g, off, ha, fun i hi => ?_⟩
    rw [hc i (by omega), ints, getD_map_some (by omega)]
theorem SlA.fromK {k : IntKind} {w : World} {a : Option Addr} {n cap : Nat} {l : List Int} (h : SlA k w a n cap l) (m : Nat) (hm : m ≤ n) : SlA k w (if cap = m then a else a.map (·.add m)) (n - m) (cap - m) (l.drop m) := by
  have hle := h.le
  by_cases c : cap = m
  · rw [if_pos c]
    have := h.drop_end m hm c
    rw [show cap - m = 0 by omega]
    exact this
  · rw [if_neg c]
    obtain ⟨b, off, rfl, _⟩ := h.cells (by omega)
    have := h.drop m hm c
    rw [show (some (⟨b, off, none⟩ : Addr)).map (·.add m) = some ⟨b, off + m, none⟩ by simp [addr_add]]
    exact this
theorem map_add_block {a : Option Addr} {m cap : Nat} {y : Addr} {P : Nat → Prop} (h : ∀ y, a = some y → P y.block) (hy : (if cap = m then a else a.map (·.add m)) = some y) : P y.block := by
  split at hy
  · exact h y hy
  · cases a with
    | none => simp at hy
    | some z =>
      simp at hy
      subst hy
      have : (z.add m).block = z.block := by unfold Addr.add; split <;> rfl
      rw [this]
      exact h z rfl
section
variable {P : Program} (w : World)
theorem run_copy_sl (t tx ty : TypeId) (e : TypeId) (i : TypeInfo) (ht : P.underlying t = some (.slice e)) (hi : P.info? e = some i) (hsize : i.size = 1) (g off cap m : Nat) (A B C : List Value)
    (hg : w.heap[g]? = some (.cells (A ++ B ++ C).toArray e (0, 0))) (hA : A.length = off) (a : Option Addr) (k ck : Nat) (l : List Int) (K : IntKind) (hs : SlA K w a k ck l) (q : Nat) (hq : q = min k m) (hB : B.length = q) :
    (Builtin.copy_ #[t, tx] ty #[.slice (some ⟨g, off, none⟩) m cap, .slice a k ck]).run P w = .ok (goInt q) (w.setRow g (A ++ ints K (l.take q) ++ C).toArray) := by
  have hll := hs.len
  have hle := hs.le
  have hlt : (l.take q).length = q := by rw [List.length_take]; omega
  have hst := run_store_row (P := P) w g off e A B C (ints K (l.take q)) hg hA (by rw [ints_len, hlt]; exact hB) (ints_one _ _)
  have hl : (Builtin.lenOf (.slice a k ck)).run P w = .ok k w := rfl
  have hmin : Nat.min k m = q := hq.symm
  have hf : (Builtin.firstCells i.size q (.slice a k ck)).run P w = .ok (ints K (l.take q)).toArray w := by
    rw [hsize]
    cases a with
    | none =>
      have h0 := hs.nil rfl
      have : q = 0 := by omega
      subst this
      simp [Builtin.firstCells, ints]
    | some y =>
      refine run_firstCells_some w 1 q y k ck (ints K (l.take q)) (by rw [ints_len, hlt]; omega) (fun j v hj => ?_)
      have hjq : j < q := by
        have := (List.getElem?_eq_some_iff.1 hj).1
        rw [ints_len, hlt] at this
        exact this
      obtain ⟨b, o, hy, hc⟩ := hs.cells (by omega)
      obtain rfl : y = ⟨b, o, none⟩ := by injection hy
      rw [addr_add, hc j (by omega)]
      rw [← hj, ints, getD_map_some (by omega)]
      simp [List.getD, hjq]
  simp [Builtin.copy_, run_underlying ht, sizeOf, typeInfo, hi, hl, hmin, hf, hst]
theorem wpList_copy_sl {ops : Array Oper} {rest : List Oper} {o : Oper} {a : Act} {Q : Exit → Act → World → Prop} (hgd : o.guard = none) (s x : Operand) (t tx : TypeId)
    (ho : o.op = .call { callee := .builtin .copy, args := #[s, x], argTypes := #[t, tx] })
    (e : TypeId) (i : TypeInfo) (ht : P.underlying t = some (.slice e)) (hi : P.info? e = some i) (hsize : i.size = 1) (g off cap m : Nat) (A B C : List Value) (hsv : a.eval s = .slice (some ⟨g, off, none⟩) m cap)
    (hg : w.heap[g]? = some (.cells (A ++ B ++ C).toArray e (0, 0))) (hA : A.length = off) (b : Option Addr) (k ck : Nat) (l : List Int) (K : IntKind) (hx : a.eval x = .slice b k ck) (hs : SlA K w b k ck l) (q : Nat) (hq : q = min k m) (hB : B.length = q)
    (h : ∀ w', Hid (w'.heap[g]? = some (.cells (A ++ ints K (l.take q) ++ C).toArray e (0, 0))) → Kept [g] w w' → wpList P ops Q rest (a.put o.dst (goInt q)) w') : wpList P ops Q (o :: rest) a w :=
  wpList_plain hgd fun _ hK => by
    have hr := run_copy_sl (P := P) w t tx o.type e i ht hi hsize g off cap m A B C hg hA b k ck l K hs q hq hB
    unfold Oper.wp execOp
    simp only [ho, resolve, invoke, builtin, Sem.run_bind, Sem.run_pure, Result.andThen_ok, List.map_toArray, List.map_cons, List.map_nil, hsv, hx, hr]
    exact hK _ _ (h _ (Lib.hid (setRow_heap w g _ _ e _ hg)) (kept_setRow w g _))
end
/-- b[k:] of a row -/
theorem run_slice_from (P : Program) (t : TypeId) (e : TypeId) (i : TypeInfo) (ht : P.underlying t = some (.slice e)) (hi : P.info? e = some i) (hsize : i.size = 1) (a : Option Addr) (n cap k : Nat) (hk : k ≤ n) :
    ∀ wx, (Instr.slice t (.slice a n cap) (some (.int .i64 (k : Int))) none none).run P wx = .ok (.slice (if cap = k then a else a.map (·.add k)) (n - k) (cap - k)) wx := by
  intro wx
  have e1 : (asIntOf (.int .i64 (k : Int))).run P wx = .ok (.i64, (k : Int)) wx := rfl
  have h3 : ¬ (k : Int) < 0 := by omega
  simp [Instr.slice, Instr.sliceBounds, Instr.sliceBound, run_underlying ht, sizeOf, typeInfo, hi, hsize, e1, hk]
/-- b[j:k] of a row -/
theorem run_slice_two (P : Program) (t : TypeId) (e : TypeId) (i : TypeInfo) (ht : P.underlying t = some (.slice e)) (hi : P.info? e = some i) (hsize : i.size = 1) (a : Option Addr) (n cap j k : Nat) (hj : j ≤ k) (hk : k ≤ cap) :
    ∀ wx, (Instr.slice t (.slice a n cap) (some (.int .i64 (j : Int))) (some (.int .i64 (k : Int))) none).run P wx = .ok (.slice (if cap = j then a else a.map (·.add j)) (k - j) (cap - j)) wx := by
  intro wx
  have e1 : (asIntOf (.int .i64 (j : Int))).run P wx = .ok (.i64, (j : Int)) wx := rfl
  have e2 : (asIntOf (.int .i64 (k : Int))).run P wx = .ok (.i64, (k : Int)) wx := rfl
  simp [Instr.slice, Instr.sliceBounds, Instr.sliceBound, run_underlying ht, sizeOf, typeInfo, hi, hsize, e1, e2, hj, hk]
/-- b[j:k:k] of a row -/
theorem run_slice_3 (P : Program) (t : TypeId) (e : TypeId) (i : TypeInfo) (ht : P.underlying t = some (.slice e)) (hi : P.info? e = some i) (hsize : i.size = 1) (g off : Nat) (n cap j k : Nat) (hj : j < k) (hk : k ≤ cap) :
    ∀ wx, (Instr.slice t (.slice (some ⟨g, off, none⟩) n cap) (some (.int .i64 (j : Int))) (some (.int .i64 (k : Int))) (some (.int .i64 (k : Int)))).run P wx = .ok (.slice (some ⟨g, off + j, none⟩) (k - j) (k - j)) wx := by
  intro wx
  have e1 : (asIntOf (.int .i64 (j : Int))).run P wx = .ok (.i64, (j : Int)) wx := rfl
  have e2 : (asIntOf (.int .i64 (k : Int))).run P wx = .ok (.i64, (k : Int)) wx := rfl
  have h1 : ¬ k = j := by omega
  have h2 : j ≤ k := by omega
  simp [Instr.slice, Instr.sliceBounds, Instr.sliceBound, run_underlying ht, sizeOf, typeInfo, hi, hsize, e1, e2, h2, hk, h1, addr_add]
/-- b[:k:k] of a row -/
theorem run_slice_3h (P : Program) (t : TypeId) (e : TypeId) (i : TypeInfo) (ht : P.underlying t = some (.slice e)) (hi : P.info? e = some i) (hsize : i.size = 1) (g off : Nat) (n cap k : Nat) (hk : k ≤ cap) :
    ∀ wx, (Instr.slice t (.slice (some ⟨g, off, none⟩) n cap) none (some (.int .i64 (k : Int))) (some (.int .i64 (k : Int)))).run P wx = .ok (.slice (some ⟨g, off, none⟩) k k) wx := by
  intro wx
  have e2 : (asIntOf (.int .i64 (k : Int))).run P wx = .ok (.i64, (k : Int)) wx := rfl
  by_cases h0 : k = 0
  · subst h0
    have e2 : (asIntOf (.int .i64 0)).run P wx = .ok (.i64, 0) wx := rfl
    simp [Instr.slice, Instr.sliceBounds, Instr.sliceBound, run_underlying ht, sizeOf, typeInfo, hi, hsize, e2, hk, addr_add]
  · simp [Instr.slice, Instr.sliceBounds, Instr.sliceBound, run_underlying ht, sizeOf, typeInfo, hi, hsize, e2, hk, h0, addr_add]
end Go.Proofs.Ytjkjbhapkmamkaa.mem
