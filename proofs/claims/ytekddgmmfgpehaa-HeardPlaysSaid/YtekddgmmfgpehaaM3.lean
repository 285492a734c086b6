/-
  Several texts in one: BufC SpnW SpnM SpnP SpnR HrdW Rng Held SpnY SpnQ
-/
import Derived.Test.YtekddgmmfgpehaaProg
import Derived.Laws.StructEq
import Derived.Deep.DrawnRows
import Derived.WalkSpells
import Derived.IntWalk
import Derived.RangeFuncNested
import Derived.RangeFuncBound
import Derived.RangeFuncCalls
import Derived.RangeFuncLeaves
import Derived.OrdersIn
import Derived.Deep.RegionHeld
import Derived.Test.YtekddgmmfgpehaaM2
/-!   copy, of bytes that are read, onto a part of a row of which all is known. Imports nothing of the program.
-/
namespace Go.Proofs.Ytekddgmmfgpehaa.mem
open Go.RowKit aid
set_option linter.unusedVariables false
set_option linter.unusedSimpArgs false

theorem ints_one (k : IntKind) (l : List Int) : ∀ u ∈ ints k l, u.oneCell' = true := by
  intro u hu
  obtain ⟨_, _, rfl⟩ := List.mem_map.1 hu
  rfl
theorem ints_len (k : IntKind) (l : List Int) : (ints k l).length = l.length := by simp [ints]
theorem ints_take (k : IntKind) (l : List Int) (n : Nat) : (ints k l).take n = ints k (l.take n) := by simp [ints]
theorem ints_drop (k : IntKind) (l : List Int) (n : Nat) : (ints k l).drop n = ints k (l.drop n) := by simp [ints]
/-- a row's piece is a slice that is read -/
theorem SlR.sla {w : World} {e : TypeId} {k : IntKind} {a : Option Addr} {n cap : Nat} {l : List Int} (h : SlR w e 1 a n cap (ints k l)) : SlA k w a n cap l := by
  have hl : l.length = n := by have := h.len; rw [ints_len] at this; omega
  refine ⟨hl, h.le, h.most, fun ha => ?_, fun h0 => ?_⟩
  · by_cases h0 : cap = 0
    · exact h0
    · obtain ⟨g, off, cur, hx, _⟩ := h.rest (by omega)
      rw [ha] at hx; cases hx
  · obtain ⟨g, off, ha, hc⟩ := h.cell h0
    refine ⟨g, off, ha, fun i hi => ?_⟩
    rw [hc i (by omega), ints, getD_map_some (by omega)]
theorem SlA.fromK {k : IntKind} {w : World} {a : Option Addr} {n cap : Nat} {l : List Int} (h : SlA k w a n cap l) (m : Nat) (hm : m ≤ n) : SlA k w (if cap = m then a else a.map (·.add m)) (n - m) (cap - m) (l.drop m) := by
  have hle := h.le
  by_cases c : cap = m
  · rw [if_pos c]
    have := h.drop_end m hm c
    rw [show cap - m = 0 by omega]
    exact this
  · rw [if_neg c]
    obtain ⟨b, off, rfl, _⟩ := h.cells (by omega)
    have := h.drop m hm c
    rw [show (some (⟨b, off, none⟩ : Addr)).map (·.add m) = some ⟨b, off + m, none⟩ by simp [addr_add]]
    exact this
theorem map_add_block {a : Option Addr} {m cap : Nat} {y : Addr} {P : Nat → Prop} (h : ∀ y, a = some y → P y.block) (hy : (if cap = m then a else a.map (·.add m)) = some y) : P y.block := by
  split at hy
  · exact h y hy
  · cases a with
    | none => simp at hy
    | some z =>
      simp at hy
      subst hy
      have : (z.add m).block = z.block := by unfold Addr.add; split <;> rfl
      rw [this]
      exact h z rfl
section
variable {P : Program} (w : World)
theorem run_copy_sl (t tx ty : TypeId) (e : TypeId) (i : TypeInfo) (ht : P.underlying t = some (.slice e)) (hi : P.info? e = some i) (hsize : i.size = 1) (g off cap m : Nat) (A B C : List Value)
    (hg : w.heap[g]? = some (.cells (A ++ B ++ C).toArray e (0, 0))) (hA : A.length = off) (a : Option Addr) (k ck : Nat) (l : List Int) (K : IntKind) (hs : SlA K w a k ck l) (q : Nat) (hq : q = min k m) (hB : B.length = q) :
    (Builtin.copy_ #[t, tx] ty #[.slice (some ⟨g, off, none⟩) m cap, .slice a k ck]).run P w = .ok (goInt q) (w.setRow g (A ++ ints K (l.take q) ++ C).toArray) := by
  have hll := hs.len
  have hle := hs.le
  have hlt : (l.take q).length = q := by rw [List.length_take]; omega
  have hst := run_store_row (P := P) w g off e A B C (ints K (l.take q)) hg hA (by rw [ints_len, hlt]; exact hB) (ints_one _ _)
  have hl : (Builtin.lenOf (.slice a k ck)).run P w = .ok k w := rfl
  have hmin : Nat.min k m = q := hq.symm
  have hf : (Builtin.firstCells i.size q (.slice a k ck)).run P w = .ok (ints K (l.take q)).toArray w := by
    rw [hsize]
    cases a with
    | none =>
      have h0 := hs.nil rfl
      have : q = 0 := by omega
      subst this
      simp [Builtin.firstCells, ints]
    | some y =>
      refine run_firstCells_some w 1 q y k ck (ints K (l.take q)) (by rw [ints_len, hlt]; omega) (fun j v hj => ?_)
      have hjq : j < q := by
        have := (List.getElem?_eq_some_iff.1 hj).1
        rw [ints_len, hlt] at this
        exact this
      obtain ⟨b, o, hy, hc⟩ := hs.cells (by omega)
      obtain rfl : y = ⟨b, o, none⟩ := by injection hy
      rw [addr_add, hc j (by omega)]
      rw [← hj, ints, getD_map_some (by omega)]
      simp [List.getD, hjq]
  simp [Builtin.copy_, run_underlying ht, sizeOf, typeInfo, hi, hl, hmin, hf, hst]
theorem wpList_copy_sl {ops : Array Oper} {rest : List Oper} {o : Oper} {a : Act} {Q : Exit → Act → World → Prop} (hgd : o.guard = none) (s x : Operand) (t tx : TypeId)
    (ho : o.op = .call { callee := .builtin .copy, args := #[s, x], argTypes := #[t, tx] })
    (e : TypeId) (i : TypeInfo) (ht : P.underlying t = some (.slice e)) (hi : P.info? e = some i) (hsize : i.size = 1) (g off cap m : Nat) (A B C : List Value) (hsv : a.eval s = .slice (some ⟨g, off, none⟩) m cap)
    (hg : w.heap[g]? = some (.cells (A ++ B ++ C).toArray e (0, 0))) (hA : A.length = off) (b : Option Addr) (k ck : Nat) (l : List Int) (K : IntKind) (hx : a.eval x = .slice b k ck) (hs : SlA K w b k ck l) (q : Nat) (hq : q = min k m) (hB : B.length = q)
    (h : ∀ w', Hid (w'.heap[g]? = some (.cells (A ++ ints K (l.take q) ++ C).toArray e (0, 0))) → Kept [g] w w' → wpList P ops Q rest (a.put o.dst (goInt q)) w') : wpList P ops Q (o :: rest) a w :=
  wpList_plain hgd fun _ hK => by
    have hr := run_copy_sl (P := P) w t tx o.type e i ht hi hsize g off cap m A B C hg hA b k ck l K hs q hq hB
    unfold Oper.wp execOp
    simp only [ho, resolve, invoke, builtin, Sem.run_bind, Sem.run_pure, Result.andThen_ok, List.map_toArray, List.map_cons, List.map_nil, hsv, hx, hr]
    exact hK _ _ (h _ (Lib.hid (setRow_heap w g _ _ e _ hg)) (kept_setRow w g _))
end
/-- b[k:] of a row -/
theorem run_slice_from (P : Program) (t : TypeId) (e : TypeId) (i : TypeInfo) (ht : P.underlying t = some (.slice e)) (hi : P.info? e = some i) (hsize : i.size = 1) (a : Option Addr) (n cap k : Nat) (hk : k ≤ n) :
    ∀ wx, (Instr.slice t (.slice a n cap) (some (.int .i64 (k : Int))) none none).run P wx = .ok (.slice (if cap = k then a else a.map (·.add k)) (n - k) (cap - k)) wx := by
  intro wx
  have e1 : (asIntOf (.int .i64 (k : Int))).run P wx = .ok (.i64, (k : Int)) wx := rfl
  have h3 : ¬ (k : Int) < 0 := by omega
  simp [Instr.slice, Instr.sliceBounds, Instr.sliceBound, run_underlying ht, sizeOf, typeInfo, hi, hsize, e1, hk]
/-- b[j:k] of a row -/
theorem run_slice_two (P : Program) (t : TypeId) (e : TypeId) (i : TypeInfo) (ht : P.underlying t = some (.slice e)) (hi : P.info? e = some i) (hsize : i.size = 1) (a : Option Addr) (n cap j k : Nat) (hj : j ≤ k) (hk : k ≤ cap) :
    ∀ wx, (Instr.slice t (.slice a n cap) (some (.int .i64 (j : Int))) (some (.int .i64 (k : Int))) none).run P wx = .ok (.slice (if cap = j then a else a.map (·.add j)) (k - j) (cap - j)) wx := by
  intro wx
  have e1 : (asIntOf (.int .i64 (j : Int))).run P wx = .ok (.i64, (j : Int)) wx := rfl
  have e2 : (asIntOf (.int .i64 (k : Int))).run P wx = .ok (.i64, (k : Int)) wx := rfl
  simp [Instr.slice, Instr.sliceBounds, Instr.sliceBound, run_underlying ht, sizeOf, typeInfo, hi, hsize, e1, e2, hj, hk]
/-- b[j:k:k] of a row -/
theorem run_slice_3 (P : Program) (t : TypeId) (e : TypeId) (i : TypeInfo) (ht : P.underlying t = some (.slice e)) (hi : P.info? e = some i) (hsize : i.size = 1) (g off : Nat) (n cap j k : Nat) (hj : j < k) (hk : k ≤ cap) :
    ∀ wx, (Instr.slice t (.slice (some ⟨g, off, none⟩) n cap) (some (.int .i64 (j : Int))) (some (.int .i64 (k : Int))) (some (.int .i64 (k : Int)))).run P wx = .ok (.slice (some ⟨g, off + j, none⟩) (k - j) (k - j)) wx := by
  intro wx
  have e1 : (asIntOf (.int .i64 (j : Int))).run P wx = .ok (.i64, (j : Int)) wx := rfl
  have e2 : (asIntOf (.int .i64 (k : Int))).run P wx = .ok (.i64, (k : Int)) wx := rfl
  have h1 : ¬ k = j := by omega
  have h2 : j ≤ k := by omega
  simp [Instr.slice, Instr.sliceBounds, Instr.sliceBound, run_underlying ht, sizeOf, typeInfo, hi, hsize, e1, e2, h2, hk, h1, addr_add]
/-- b[:k:k] of a row -/
theorem run_slice_3h (P : Program) (t : TypeId) (e : TypeId) (i : TypeInfo) (ht : P.underlying t = some (.slice e)) (hi : P.info? e = some i) (hsize : i.size = 1) (g off : Nat) (n cap k : Nat) (hk : k ≤ cap) :
    ∀ wx, (Instr.slice t (.slice (some ⟨g, off, none⟩) n cap) none (some (.int .i64 (k : Int))) (some (.int .i64 (k : Int)))).run P wx = .ok (.slice (some ⟨g, off, none⟩) k k) wx := by
  intro wx
  have e2 : (asIntOf (.int .i64 (k : Int))).run P wx = .ok (.i64, (k : Int)) wx := rfl
  by_cases h0 : k = 0
  · subst h0
    have e2 : (asIntOf (.int .i64 0)).run P wx = .ok (.i64, 0) wx := rfl
    simp [Instr.slice, Instr.sliceBounds, Instr.sliceBound, run_underlying ht, sizeOf, typeInfo, hi, hsize, e2, hk, addr_add]
  · simp [Instr.slice, Instr.sliceBounds, Instr.sliceBound, run_underlying ht, sizeOf, typeInfo, hi, hsize, e2, hk, h0, addr_add]
end Go.Proofs.Ytekddgmmfgpehaa.mem
/-!   Package span: what each call does.
-/
namespace Go.Proofs.Ytekddgmmfgpehaa.sp
open Go.RowKit aid mem
attribute [local go_sem ↓] Go.wp_at_zero Go.wp_at_succ
set_option linter.unusedVariables false

theorem bal {w : World} (o : Obj) : Below w.heap.size w (w.alloc o) := (Below.refl _ _).alloc (Nat.le_refl _) _
/-- the value of a span -/
abbrev spV (s : Int × Int) : Value := .agg #[.int .i64 s.1, .int .i64 s.2]
/-- block B holds a span -/
def SpAt (w : World) (B : Nat) (s : Int × Int) : Prop := w.heap[B]? = some (.cells #[.int .i64 s.1, .int .i64 s.2] 36 (0, 0))
theorem SpAt.c0 {w : World} {B : Nat} {s : Int × Int} (h : SpAt w B s) : w.cell? ⟨B, 0, none⟩ = some (.int .i64 s.1) := (cell_of_row w B 0 _ _ (0, 0) h).trans rfl
theorem SpAt.c1 {w : World} {B : Nat} {s : Int × Int} (h : SpAt w B s) : w.cell? ⟨B, 1, none⟩ = some (.int .i64 s.2) := (cell_of_row w B 1 _ _ (0, 0) h).trans rfl
theorem SpAt.f0 {w : World} {B : Nat} {s : Int × Int} (h : SpAt w B s) : w.frozen? ⟨B, 0, none⟩ = false := by simp [World.frozen?, show w.heap[B]? = _ from h]
theorem SpAt.f1 {w : World} {B : Nat} {s : Int × Int} (h : SpAt w B s) : w.frozen? ⟨B, 1, none⟩ = false := by simp [World.frozen?, show w.heap[B]? = _ from h]
theorem SpAt.lt {w : World} {B : Nat} {s : Int × Int} (h : SpAt w B s) : B < w.heap.size := lt_of_block h
theorem SpAt.keep {w w' : World} {B : Nat} {s : Int × Int} (h : SpAt w B s) {S : List Nat} (hk : Kept S w w') (hB : B ∉ S) : SpAt w' B s := hk.heap hB h
theorem SpAt.later {w w' : World} {B : Nat} {s : Int × Int} (h : SpAt w B s) (hk : Below w.heap.size w w') : SpAt w' B s := h.keep (Kept.of_below hk (Nat.le_refl _) []) (by simp)
theorem sp_new (w : World) (s : Int × Int) : SpAt (w.alloc (.cells #[.int .i64 s.1, .int .i64 s.2] 36)) w.heap.size s := heap_alloc_new w _
theorem SpAt.put {w : World} {B : Nat} {s : Int × Int} (h : SpAt w B s) (a b : Int) : SpAt ((w.setCell ⟨B, 0, none⟩ (.int .i64 a)).setCell ⟨B, 1, none⟩ (.int .i64 b)) B (a, b) :=
  (heap_setCell_same _ B 1 _ _ _ (heap_setCell_same _ B 0 _ _ _ h)).trans rfl
theorem kput (w : World) (B : Nat) (u v : Value) : Kept [B] w ((w.setCell ⟨B, 0, none⟩ u).setCell ⟨B, 1, none⟩ v) :=
  ((Kept.refl [B] w).setCell (.inl (by simp)) u).setCell (.inl (by simp)) v
def RetB (b : Bool) (w : World) (e : Ending) (w' : World) : Prop := e = .returned (.bool b) ∧ Below w.heap.size w w'
def RetI (n : Int) (w : World) (e : Ending) (w' : World) : Prop := e = .returned (.int .i64 n) ∧ Below w.heap.size w w'
def RetS (s : Int × Int) (w : World) (e : Ending) (w' : World) : Prop := e = .returned (.agg #[.int .i64 s.1, .int .i64 s.2]) ∧ Below w.heap.size w w'

set_option maxHeartbeats 400000 in
theorem may_any (f t : Int) (w : World) : Calls Try.prog 82 #[spV (f, t)] w (RetB (mayB f t) w) := by
  go_enter Try.func82, Try.ntmps82
  go_wp2
  all_goals
    go_ret
    exact ⟨ret_b (by unfold mayB; simp; omega), bal _⟩

theorem between_any (a b : Int) (w : World) : Calls Try.prog 79 #[.int .i64 a, .int .i64 b] w (RetS (betw a b) w) := by
  by_cases h : b ≤ a
  · have H : Hid (betw a b = (0, 0)) := Lib.hid (by unfold betw; rw [if_pos h])
    go_enter Try.func79, Try.ntmps79
    go_wp2
    refine bodyPost_ret (v := spV (0, 0)) (by simp [results, Try.results79, go_sem]) rfl ⟨by rw [H.out], ?_⟩
    exact bal _
  · have H : Hid (betw a b = (a, b)) := Lib.hid (by unfold betw; rw [if_neg h])
    go_enter Try.func79, Try.ntmps79
    go_wp2
    refine bodyPost_ret (v := spV (a, b)) (by simp [results, Try.results79, go_sem]) rfl ⟨by rw [H.out], ?_⟩
    exact bal _

theorem fit_any (s : Int × Int) (w : World) : Calls Try.prog 63 #[spV s] w (RetS (fitP s.1 s.2) w) := by
  have b1 := bal (w := w) (.cells #[.int .i64 s.1, .int .i64 s.2] 36)
  have b2 := b1.alloc b1.size (.cells #[.int .i64 0, .int .i64 0] 36)
  have s1 := (sp_new w s).later (bal (.cells #[.int .i64 0, .int .i64 0] 36))
  have s2 := sp_new (w.alloc (.cells #[.int .i64 s.1, .int .i64 s.2] 36)) (0, 0)
  simp only [World.size_alloc] at s2
  cases hm : mayB s.1 s.2 with
  | true =>
    have H : Hid (fitP s.1 s.2 = s) := Lib.hid (by unfold fitP; rw [if_pos hm])
    have HM := Lib.hid hm
    clear hm
    go_enter Try.func63, Try.ntmps63
    go_wp2_with fail
    refine (may_any s.1 s.2 _).mono ?_
    rintro e w1 ⟨rfl, h1⟩
    rw [HM.out]
    have t1 := s1.later h1
    have t2 := s2.later h1
    have t3 := t2.put s.1 s.2
    have c0 := t1.c0; have c1 := t1.c1; have d0 := t2.c0; have d1 := t2.c1; have f0 := t2.f0; have f1 := t2.f1
    go_wp2
    have e0 := t3.c0; have e1 := t3.c1
    refine bodyPost_ret (v := spV s) (by simp [results, Try.results63, go_sem, e0, e1]) rfl ⟨by rw [H.out], ?_⟩
    have hB := b2.trans (h1.mono b2.size)
    exact hB.trans ((kput w1 _ _ _).below (by simp) hB.size)
  | false =>
    have H : Hid (fitP s.1 s.2 = (0, 0)) := Lib.hid (by unfold fitP; rw [if_neg (by rw [hm]; simp)])
    have HM := Lib.hid hm
    clear hm
    go_enter Try.func63, Try.ntmps63
    go_wp2_with fail
    refine (may_any s.1 s.2 _).mono ?_
    rintro e w1 ⟨rfl, h1⟩
    rw [HM.out]
    have t1 := s1.later h1
    have t2 := s2.later h1
    have t3 := t2.put 0 0
    have c0 := t1.c0; have c1 := t1.c1; have d0 := t2.c0; have d1 := t2.c1; have f0 := t2.f0; have f1 := t2.f1
    go_wp2
    have e0 := t3.c0; have e1 := t3.c1
    refine bodyPost_ret (v := spV (0, 0)) (by simp [results, Try.results63, go_sem, e0, e1]) rfl ⟨by rw [H.out], ?_⟩
    have hB := b2.trans (h1.mono b2.size)
    exact hB.trans ((kput w1 _ _ _).below (by simp) hB.size)

theorem len_any (s : Int × Int) (w : World) : Calls Try.prog 28 #[spV s] w (RetI (lenI s) w) := by
  have b1 := bal (w := w) (.cells #[.int .i64 s.1, .int .i64 s.2] 36)
  have s1 := sp_new w s
  have hF := fit_any s (w.alloc (.cells #[.int .i64 s.1, .int .i64 s.2] 36))
  have ho := fit_ok s.1 s.2
  have H : Hid (lenI s = (fitP s.1 s.2).2 - (fitP s.1 s.2).1) := Lib.hid rfl
  generalize fitP s.1 s.2 = p at *
  obtain ⟨o1, o2, o3⟩ := ho
  go_enter Try.func28, Try.ntmps28
  go_wp2_with fail
  refine hF.mono ?_
  rintro e w1 ⟨rfl, h1⟩
  have t1 := s1.later h1
  have t2 := t1.put p.1 p.2
  have c0 := t1.c0; have c1 := t1.c1; have f0 := t1.f0; have f1 := t1.f1
  have d0 := t2.c0; have d1 := t2.c1
  clear hF
  go_wp2
  go_ret
  have hB := b1.trans (h1.mono b1.size)
  exact ⟨by rw [H.out]; rfl, hB.trans ((kput w1 _ _ _).below (by simp) hB.size)⟩

theorem has_any (s : Int × Int) (o : Int) (w : World) : Calls Try.prog 89 #[spV s, .int .i64 o] w (RetB (hasB s o) w) := by
  have b1 := bal (w := w) (.cells #[.int .i64 s.1, .int .i64 s.2] 36)
  have s1 := sp_new w s
  have hF := fit_any s (w.alloc (.cells #[.int .i64 s.1, .int .i64 s.2] 36))
  have H : Hid (hasB s o = (decide ((fitP s.1 s.2).1 ≤ o) && decide (o < (fitP s.1 s.2).2))) := Lib.hid rfl
  generalize fitP s.1 s.2 = p at *
  go_enter Try.func89, Try.ntmps89
  go_wp2_with fail
  refine hF.mono ?_
  rintro e w1 ⟨rfl, h1⟩
  have t1 := s1.later h1
  have t2 := t1.put p.1 p.2
  have c0 := t1.c0; have c1 := t1.c1; have f0 := t1.f0; have f1 := t1.f1
  have d0 := t2.c0; have d1 := t2.c1
  clear hF
  have hB := b1.trans (h1.mono b1.size)
  go_wp2
  all_goals
    go_ret
    exact ⟨ret_b (by rw [H.out]; simp; omega), hB.trans ((kput w1 _ _ _).below (by simp) hB.size)⟩

theorem two_new (w : World) (s t : Int × Int) : SpAt ((w.alloc (.cells #[.int .i64 s.1, .int .i64 s.2] 36)).alloc (.cells #[.int .i64 t.1, .int .i64 t.2] 36)) w.heap.size s ∧ SpAt ((w.alloc (.cells #[.int .i64 s.1, .int .i64 s.2] 36)).alloc (.cells #[.int .i64 t.1, .int .i64 t.2] 36)) (w.heap.size + 1) t ∧ Below w.heap.size w ((w.alloc (.cells #[.int .i64 s.1, .int .i64 s.2] 36)).alloc (.cells #[.int .i64 t.1, .int .i64 t.2] 36)) :=
  ⟨(sp_new w s).later (bal _), by simpa using sp_new (w.alloc (.cells #[.int .i64 s.1, .int .i64 s.2] 36)) t, (bal _).alloc (bal _).size _⟩


theorem three_new (w : World) (s t : Int × Int) : SpAt (((w.alloc (.cells #[.int .i64 s.1, .int .i64 s.2] 36)).alloc (.cells #[.int .i64 t.1, .int .i64 t.2] 36)).alloc (.cells #[.int .i64 0, .int .i64 0] 36)) w.heap.size s ∧ SpAt (((w.alloc (.cells #[.int .i64 s.1, .int .i64 s.2] 36)).alloc (.cells #[.int .i64 t.1, .int .i64 t.2] 36)).alloc (.cells #[.int .i64 0, .int .i64 0] 36)) (w.heap.size + 1) t ∧ SpAt (((w.alloc (.cells #[.int .i64 s.1, .int .i64 s.2] 36)).alloc (.cells #[.int .i64 t.1, .int .i64 t.2] 36)).alloc (.cells #[.int .i64 0, .int .i64 0] 36)) (w.heap.size + 1 + 1) (0, 0) ∧ Below w.heap.size w (((w.alloc (.cells #[.int .i64 s.1, .int .i64 s.2] 36)).alloc (.cells #[.int .i64 t.1, .int .i64 t.2] 36)).alloc (.cells #[.int .i64 0, .int .i64 0] 36)) := by
  obtain ⟨h1, h2, h3⟩ := two_new w s t
  exact ⟨h1.later (bal _), h2.later (bal _), by simpa using sp_new ((w.alloc (.cells #[.int .i64 s.1, .int .i64 s.2] 36)).alloc (.cells #[.int .i64 t.1, .int .i64 t.2] 36)) (0, 0), h3.alloc h3.size _⟩

/-- three boxes side by side -/
structure M3 (w0 : World) (B : Nat) (s t u : Int × Int) (w : World) : Prop where
  b0 : SpAt w B s
  b1 : SpAt w (B + 1) t
  b2 : SpAt w (B + 1 + 1) u
  below : Below w0.heap.size w0 w
  le : w0.heap.size ≤ B
theorem M3.later {w0 : World} {B : Nat} {s t u : Int × Int} {w w' : World} (h : M3 w0 B s t u w) (hb : Below w.heap.size w w') : M3 w0 B s t u w' :=
  ⟨h.b0.later hb, h.b1.later hb, h.b2.later hb, h.below.trans (hb.mono h.below.size), h.le⟩
theorem M3.put0 {w0 : World} {B : Nat} {s t u : Int × Int} {w : World} (h : M3 w0 B s t u w) (a b : Int) : M3 w0 B (a, b) t u ((w.setCell ⟨B, 0, none⟩ (.int .i64 a)).setCell ⟨B, 1, none⟩ (.int .i64 b)) :=
  ⟨h.b0.put a b, h.b1.keep (kput w B _ _) (by simp), h.b2.keep (kput w B _ _) (by simp; omega), h.below.trans ((kput w B _ _).below (by simpa using h.le) h.below.size), h.le⟩
theorem M3.put1 {w0 : World} {B : Nat} {s t u : Int × Int} {w : World} (h : M3 w0 B s t u w) (a b : Int) : M3 w0 B s (a, b) u ((w.setCell ⟨B + 1, 0, none⟩ (.int .i64 a)).setCell ⟨B + 1, 1, none⟩ (.int .i64 b)) :=
  ⟨h.b0.keep (kput w (B + 1) _ _) (by simp), h.b1.put a b, h.b2.keep (kput w (B + 1) _ _) (by simp), h.below.trans ((kput w (B + 1) _ _).below (by have := h.le; simp; omega) h.below.size), h.le⟩
theorem M3.put2 {w0 : World} {B : Nat} {s t u : Int × Int} {w : World} (h : M3 w0 B s t u w) (a b : Int) : M3 w0 B s t (a, b) ((w.setCell ⟨B + 1 + 1, 0, none⟩ (.int .i64 a)).setCell ⟨B + 1 + 1, 1, none⟩ (.int .i64 b)) :=
  ⟨h.b0.keep (kput w (B + 1 + 1) _ _) (by simp; omega), h.b1.keep (kput w (B + 1 + 1) _ _) (by simp), h.b2.put a b, h.below.trans ((kput w (B + 1 + 1) _ _).below (by have := h.le; simp; omega) h.below.size), h.le⟩

end Go.Proofs.Ytekddgmmfgpehaa.sp
/-!   Package span: Meet.
-/
namespace Go.Proofs.Ytekddgmmfgpehaa.sp
open Go.RowKit aid mem
attribute [local go_sem ↓] Go.wp_at_zero Go.wp_at_succ
set_option linter.unusedVariables false

set_option maxRecDepth 100000 in
set_option maxHeartbeats 1600000 in
theorem meet_any (s t : Int × Int) (w : World) : Calls Try.prog 49 #[spV s, spV t] w (RetS (meetP s t) w) := by
  obtain ⟨s1, s2, s3, b1⟩ := three_new w s t
  have H : Hid (meetP s t = betw (max (fitP s.1 s.2).1 (fitP t.1 t.2).1) (min (fitP s.1 s.2).2 (fitP t.1 t.2).2)) := Lib.hid rfl
  have M0 : M3 w w.heap.size s t (0, 0) (((w.alloc (.cells #[.int .i64 s.1, .int .i64 s.2] 36)).alloc (.cells #[.int .i64 t.1, .int .i64 t.2] 36)).alloc (.cells #[.int .i64 0, .int .i64 0] 36)) := ⟨s1, s2, s3, b1, Nat.le_refl _⟩
  clear s1 s2 s3 b1
  go_enter Try.func49, Try.ntmps49
  go_wp2_with fail
  generalize ((w.alloc (.cells #[.int .i64 s.1, .int .i64 s.2] 36)).alloc (.cells #[.int .i64 t.1, .int .i64 t.2] 36)).alloc (.cells #[.int .i64 0, .int .i64 0] 36) = W at *
  generalize w.heap.size = B at *
  have hp := fit_ok s.1 s.2
  have hq := fit_ok t.1 t.2
  have HF := fit_any s
  have HG := fit_any t
  generalize fitP s.1 s.2 = p at *
  generalize fitP t.1 t.2 = q at *
  have HP := Lib.hid hp
  have HQ := Lib.hid hq
  have HFF := Lib.hid HF
  have HGG := Lib.hid HG
  clear hp hq HF HG
  have M1 := M0.later (Below.refl _ _).drew
  clear M0
  have c0 := M1.b0.c0; have c1 := M1.b0.c1; have d0 := M1.b1.c0; have d1 := M1.b1.c1
  go_region_with (first
    | (go_at_call 63; refine (HFF.out _).mono ?_; rintro e w2 ⟨rfl, h2⟩; have M2 := M1.later h2; clear M1 h2 c0 c1 d0 d1; have d0 := M2.b1.c0; have d1 := M2.b1.c1)
    | (go_at_call 63; refine (HGG.out _).mono ?_; rintro e w3 ⟨rfl, h3⟩; have m3 := M2.later h3; clear M2 h3 d0 d1; have c0 := m3.b0.c0; have c1 := m3.b0.c1; have d0 := m3.b1.c0; have d1 := m3.b1.c1; have c2 := m3.b0.f0; have c3 := m3.b0.f1; have d2 := m3.b1.f0; have d3 := m3.b1.f1))
  all_goals
    have M4 := (m3.put0 p.1 p.2).put1 q.1 q.2
    clear m3 c0 c1 d0 d1 c2 c3 d2 d3
    generalize (((w3.setCell ⟨B, 0, none⟩ (.int .i64 p.1)).setCell ⟨B, 1, none⟩ (.int .i64 p.2)).setCell ⟨B + 1, 0, none⟩ (.int .i64 q.1)).setCell ⟨B + 1, 1, none⟩ (.int .i64 q.2) = w4 at *
    have c0 := M4.b0.c0; have c1 := M4.b0.c1; have d0 := M4.b1.c0; have d1 := M4.b1.c1
    go_wp2_with fail
    all_goals
      refine (between_any _ _ _).mono ?_
      rintro e w5 ⟨rfl, h5⟩
      rw [show betw _ _ = meetP s t from by rw [H.out]; congr 1 <;> omega]
      generalize meetP s t = r at *
      have M5 := M4.later h5
      clear M4 h5 c0 c1 d0 d1
      have e0 := M5.b2.c0; have e1 := M5.b2.c1; have e2 := M5.b2.f0; have e3 := M5.b2.f1
      go_wp2_with fail
      have M6 := M5.put2 r.1 r.2
      clear M5 e0 e1 e2 e3
      generalize (w5.setCell ⟨B + 1 + 1, 0, none⟩ (.int .i64 r.1)).setCell ⟨B + 1 + 1, 1, none⟩ (.int .i64 r.2) = w6 at *
      have e0 := M6.b2.c0; have e1 := M6.b2.c1
      exact bodyPost_ret (v := spV r) (by simp [results, Try.results49, go_sem, e0, e1]) rfl ⟨rfl, M6.below⟩
end Go.Proofs.Ytekddgmmfgpehaa.sp
/-!   Package span: Touch, Holds, Below, From, Compare.
-/
namespace Go.Proofs.Ytekddgmmfgpehaa.sp
open Go.RowKit aid mem
attribute [local go_sem ↓] Go.wp_at_zero Go.wp_at_succ
set_option linter.unusedVariables false

/-- two boxes side by side -/
structure M2 (w0 : World) (B : Nat) (s t : Int × Int) (w : World) : Prop where
  b0 : SpAt w B s
  b1 : SpAt w (B + 1) t
  below : Below w0.heap.size w0 w
  le : w0.heap.size ≤ B
theorem M2.later {w0 : World} {B : Nat} {s t : Int × Int} {w w' : World} (h : M2 w0 B s t w) (hb : Below w.heap.size w w') : M2 w0 B s t w' :=
  ⟨h.b0.later hb, h.b1.later hb, h.below.trans (hb.mono h.below.size), h.le⟩
theorem M2.all {w0 : World} {B : Nat} {s t : Int × Int} {w : World} (h : M2 w0 B s t w) : w.cell? ⟨B, 0, none⟩ = some (.int .i64 s.1) ∧ w.cell? ⟨B, 1, none⟩ = some (.int .i64 s.2) ∧ w.cell? ⟨B + 1, 0, none⟩ = some (.int .i64 t.1) ∧ w.cell? ⟨B + 1, 1, none⟩ = some (.int .i64 t.2) :=
  ⟨h.b0.c0, h.b0.c1, h.b1.c0, h.b1.c1⟩
theorem M2.put0 {w0 : World} {B : Nat} {s t : Int × Int} {w : World} (h : M2 w0 B s t w) (a b : Int) : M2 w0 B (a, b) t ((w.setCell ⟨B, 0, none⟩ (.int .i64 a)).setCell ⟨B, 1, none⟩ (.int .i64 b)) :=
  ⟨h.b0.put a b, h.b1.keep (kput w B _ _) (by simp), h.below.trans ((kput w B _ _).below (by simpa using h.le) h.below.size), h.le⟩
theorem M2.put1 {w0 : World} {B : Nat} {s t : Int × Int} {w : World} (h : M2 w0 B s t w) (a b : Int) : M2 w0 B s (a, b) ((w.setCell ⟨B + 1, 0, none⟩ (.int .i64 a)).setCell ⟨B + 1, 1, none⟩ (.int .i64 b)) :=
  ⟨h.b0.keep (kput w (B + 1) _ _) (by simp), h.b1.put a b, h.below.trans ((kput w (B + 1) _ _).below (by have := h.le; simp; omega) h.below.size), h.le⟩
theorem m2_new (w : World) (s t : Int × Int) : M2 w w.heap.size s t ((w.alloc (.cells #[.int .i64 s.1, .int .i64 s.2] 36)).alloc (.cells #[.int .i64 t.1, .int .i64 t.2] 36)) := by
  obtain ⟨h1, h2, h3⟩ := two_new w s t
  exact ⟨h1, h2, h3, Nat.le_refl _⟩
theorem m2_zero (w : World) (s : Int × Int) : M2 w w.heap.size s (0, 0) ((w.alloc (.cells #[.int .i64 s.1, .int .i64 s.2] 36)).alloc (.cells #[.int .i64 0, .int .i64 0] 36)) := m2_new w s (0, 0)

theorem eq_sp (a b c d : Int) (w : World) : (Op.equalIn 10000 36 (.agg #[.int .i64 a, .int .i64 b]) (.agg #[.int .i64 c, .int .i64 d])).run Try.prog w = .ok (a == c && b == d) w := by
  have u3 := Try.underlying3
  have a3 := Try.isAgg3
  have z3 := Try.sizeOf3
  have hS : Try.prog.underlying 36 = some (.struct (Try.prog.fieldsOf 36)) := by kernel_rfl
  rw [show (10000 : Nat) = 9999 + 1 from rfl, run_equalIn_agg w 9999 36 _ _ hS (by kernel_rfl)]
  simp only [Program.fieldsOf, Try.underlying36]
  go_simp
  by_cases h1 : a = c <;> by_cases h2 : b = d <;> simp [h1, h2]
theorem eq_guard : Try.prog.eqGuardType Try.prog.depth 36 = false := by kernel_rfl

set_option maxHeartbeats 800000 in
theorem below_any (s : Int × Int) (o : Int) (w : World) : Calls Try.prog 53 #[spV s, .int .i64 o] w (RetS (belowP s o) w) := by
  have M0 := m2_zero w s
  have H : Hid (belowP s o = betw (fitP s.1 s.2).1 (min (fitP s.1 s.2).2 o)) := Lib.hid rfl
  have HF := fit_any s
  generalize fitP s.1 s.2 = p at *
  have HFF := Lib.hid HF
  clear HF
  go_enter Try.func53, Try.ntmps53
  go_wp2_with fail
  generalize (w.alloc (.cells #[.int .i64 s.1, .int .i64 s.2] 36)).alloc (.cells #[.int .i64 0, .int .i64 0] 36) = W at *
  generalize w.heap.size = B at *
  refine (HFF.out _).mono ?_
  rintro e w1 ⟨rfl, h1⟩
  have M1 := M0.later h1
  have M1' := M1.put0 p.1 p.2
  have c0 := M1.b0.c0; have c1 := M1.b0.c1; have f0 := M1.b0.f0; have f1 := M1.b0.f1
  clear h1 M0 M1
  go_wp2_with fail
  all_goals
    refine (between_any _ _ _).mono ?_
    rintro e w2 ⟨rfl, h2⟩
    have M2 := M1'.later h2
    rw [show betw _ _ = belowP s o from by rw [H.out]; congr 1 <;> omega]
    generalize belowP s o = r at *
    have M3 := M2.put1 r.1 r.2
    have c0 := M2.b1.c0; have c1 := M2.b1.c1; have f0 := M2.b1.f0; have f1 := M2.b1.f1
    clear h2 M1' M2
    go_wp2_with fail
    have e0 := M3.b1.c0; have e1 := M3.b1.c1
    exact bodyPost_ret (v := spV r) (by simp [results, Try.results53, go_sem, e0, e1]) rfl ⟨rfl, M3.below⟩

set_option maxHeartbeats 800000 in
theorem from_any (s : Int × Int) (o : Int) (w : World) : Calls Try.prog 54 #[spV s, .int .i64 o] w (RetS (fromP s o) w) := by
  have M0 := m2_zero w s
  have H : Hid (fromP s o = betw (max (fitP s.1 s.2).1 o) (fitP s.1 s.2).2) := Lib.hid rfl
  have HF := fit_any s
  generalize fitP s.1 s.2 = p at *
  have HFF := Lib.hid HF
  clear HF
  go_enter Try.func54, Try.ntmps54
  go_wp2_with fail
  generalize (w.alloc (.cells #[.int .i64 s.1, .int .i64 s.2] 36)).alloc (.cells #[.int .i64 0, .int .i64 0] 36) = W at *
  generalize w.heap.size = B at *
  refine (HFF.out _).mono ?_
  rintro e w1 ⟨rfl, h1⟩
  have M1 := M0.later h1
  have M1' := M1.put0 p.1 p.2
  have c0 := M1.b0.c0; have c1 := M1.b0.c1; have f0 := M1.b0.f0; have f1 := M1.b0.f1
  clear h1 M0 M1
  go_wp2_with fail
  all_goals
    refine (between_any _ _ _).mono ?_
    rintro e w2 ⟨rfl, h2⟩
    have M2 := M1'.later h2
    rw [show betw _ _ = fromP s o from by rw [H.out]; congr 1 <;> omega]
    generalize fromP s o = r at *
    have M3 := M2.put1 r.1 r.2
    have c0 := M2.b1.c0; have c1 := M2.b1.c1; have f0 := M2.b1.f0; have f1 := M2.b1.f1
    clear h2 M1' M2
    go_wp2_with fail
    have e0 := M3.b1.c0; have e1 := M3.b1.c1
    exact bodyPost_ret (v := spV r) (by simp [results, Try.results54, go_sem, e0, e1]) rfl ⟨rfl, M3.below⟩

end Go.Proofs.Ytekddgmmfgpehaa.sp
/-!   Spans, as the reference has them; wider.
-/
namespace Go.Proofs.Ytekddgmmfgpehaa.sp
open Go.RowKit aid mem
attribute [local go_sem ↓] Go.wp_at_zero Go.wp_at_succ
set_option linter.unusedVariables false

set_option maxHeartbeats 400000 in
theorem rmay_any (s : Int × Int) (w : World) : Calls Try.prog 90 #[spV s] w (RetB (mayB s.1 s.2) w) := by
  go_enter Try.func90, Try.ntmps90
  go_wp2
  all_goals
    go_ret
    exact ⟨ret_b (by unfold mayB; simp; omega), bal _⟩

set_option maxRecDepth 100000 in
set_option maxHeartbeats 800000 in
theorem rof_any (s : Int × Int) (w : World) : Calls Try.prog 68 #[spV s] w (RetS (ofP s) w) := by
  have M0 := m2_zero w s
  have HF := rmay_any s
  cases hm : mayB s.1 s.2 with
  | true =>
    rw [hm] at HF
    have HFF := Lib.hid HF
    clear HF
    by_cases he : s.1 = s.2
    · have H : Hid (ofP s = (0, 0)) := Lib.hid (by unfold ofP; rw [if_neg (fun x => x.2 he)])
      have he1 : (s.1 == s.2) = true := by simpa using he
      clear hm he
      go_enter Try.func68, Try.ntmps68
      go_wp2_with fail
      generalize (w.alloc (.cells #[.int .i64 s.1, .int .i64 s.2] 36)).alloc (.cells #[.int .i64 0, .int .i64 0] 36) = W at *
      generalize w.heap.size = B at *
      refine (HFF.out _).mono ?_
      rintro e w1 ⟨rfl, h1⟩
      have M1 := M0.later h1
      have M3 := M1.put1 0 0
      have c0 := M1.b0.c0; have c1 := M1.b0.c1; have d0 := M1.b1.c0; have d1 := M1.b1.c1; have f0 := M1.b1.f0; have f1 := M1.b1.f1
      clear h1 M0 M1
      go_wp2_with fail
      have e0 := M3.b1.c0; have e1 := M3.b1.c1
      exact bodyPost_ret (v := spV (0, 0)) (by simp [results, Try.results68, go_sem, e0, e1]) rfl ⟨by rw [H.out], M3.below⟩
    · have H : Hid (ofP s = s) := Lib.hid (by unfold ofP; rw [if_pos ⟨hm, he⟩])
      have he1 : (s.1 == s.2) = false := by simpa using he
      clear hm he
      go_enter Try.func68, Try.ntmps68
      go_wp2_with fail
      generalize (w.alloc (.cells #[.int .i64 s.1, .int .i64 s.2] 36)).alloc (.cells #[.int .i64 0, .int .i64 0] 36) = W at *
      generalize w.heap.size = B at *
      refine (HFF.out _).mono ?_
      rintro e w1 ⟨rfl, h1⟩
      have M1 := M0.later h1
      have M3 := M1.put1 s.1 s.2
      have c0 := M1.b0.c0; have c1 := M1.b0.c1; have d0 := M1.b1.c0; have d1 := M1.b1.c1; have f0 := M1.b1.f0; have f1 := M1.b1.f1
      clear h1 M0 M1
      go_wp2_with fail
      have e0 := M3.b1.c0; have e1 := M3.b1.c1
      exact bodyPost_ret (v := spV s) (by simp [results, Try.results68, go_sem, e0, e1]) rfl ⟨by rw [H.out], M3.below⟩
  | false =>
    rw [hm] at HF
    have HFF := Lib.hid HF
    clear HF
    have H : Hid (ofP s = (0, 0)) := Lib.hid (by unfold ofP; rw [if_neg (fun x => by rw [hm] at x; cases x.1)])
    clear hm
    go_enter Try.func68, Try.ntmps68
    go_wp2_with fail
    generalize (w.alloc (.cells #[.int .i64 s.1, .int .i64 s.2] 36)).alloc (.cells #[.int .i64 0, .int .i64 0] 36) = W at *
    generalize w.heap.size = B at *
    refine (HFF.out _).mono ?_
    rintro e w1 ⟨rfl, h1⟩
    have M1 := M0.later h1
    have M3 := M1.put1 0 0
    have d0 := M1.b1.c0; have d1 := M1.b1.c1; have f0 := M1.b1.f0; have f1 := M1.b1.f1
    clear h1 M0 M1
    go_wp2_with fail
    have e0 := M3.b1.c0; have e1 := M3.b1.c1
    exact bodyPost_ret (v := spV (0, 0)) (by simp [results, Try.results68, go_sem, e0, e1]) rfl ⟨by rw [H.out], M3.below⟩

set_option maxRecDepth 100000 in
theorem run_f0 (p : Int × Int) : ∀ w : World, (Instr.field 36 (.agg #[.int .i64 p.1, .int .i64 p.2]) 0).run Try.prog w = .ok (.int .i64 p.1) w := fun _ => by kernel_rfl
set_option maxRecDepth 100000 in
theorem run_f1 (p : Int × Int) : ∀ w : World, (Instr.field 36 (.agg #[.int .i64 p.1, .int .i64 p.2]) 1).run Try.prog w = .ok (.int .i64 p.2) w := fun _ => by kernel_rfl

/-- one box -/
structure M1 (w0 : World) (B : Nat) (s : Int × Int) (w : World) : Prop where
  b0 : SpAt w B s
  below : Below w0.heap.size w0 w
  le : w0.heap.size ≤ B
theorem M1.later {w0 : World} {B : Nat} {s : Int × Int} {w w' : World} (h : M1 w0 B s w) (hb : Below w.heap.size w w') : M1 w0 B s w' :=
  ⟨h.b0.later hb, h.below.trans (hb.mono h.below.size), h.le⟩
theorem M1.all {w0 : World} {B : Nat} {s : Int × Int} {w : World} (h : M1 w0 B s w) : w.cell? ⟨B, 0, none⟩ = some (.int .i64 s.1) ∧ w.cell? ⟨B, 1, none⟩ = some (.int .i64 s.2) := ⟨h.b0.c0, h.b0.c1⟩
theorem m1_new (w : World) (s : Int × Int) : M1 w w.heap.size s (w.alloc (.cells #[.int .i64 s.1, .int .i64 s.2] 36)) := ⟨sp_new w s, bal _, Nat.le_refl _⟩

set_option maxRecDepth 100000 in
set_option maxHeartbeats 800000 in
theorem rlen_any (s : Int × Int) (w : World) : Calls Try.prog 35 #[spV s] w (RetI (lenI s) w) := by
  have M0 := m1_new w s
  have HF := rof_any s
  have H : Hid ((ofP s).2 - (ofP s).1 = lenI s) := Lib.hid (len_of s)
  have ho := of_ok s
  generalize ofP s = p at *
  have HFF := Lib.hid HF
  obtain ⟨o1, o2, o3⟩ := ho
  clear HF
  have hw : IntKind.i64.wrap (p.2 - p.1) = p.2 - p.1 := IntWalk.i64_in _ (by omega)
  have fl0 := run_f0 p
  have fl1 := run_f1 p
  go_enter Try.func35, Try.ntmps35
  go_wp2_with fail
  generalize w.alloc (.cells #[.int .i64 s.1, .int .i64 s.2] 36) = W at *
  generalize w.heap.size = B at *
  have M1 := M0.later (Below.refl _ _).drew
  go_region_held3 (fun w' => w'.cell? ⟨B, 0, none⟩ = some (.int .i64 s.1) ∧ w'.cell? ⟨B, 1, none⟩ = some (.int .i64 s.2)) (first | exact M3.all | exact M2.all | exact M1.all | exact M0.all | go_keep) (first
    | (go_at_call 68; refine (HFF.out _).mono ?_; rintro e w2 ⟨rfl, h2⟩; have M2 := M1.later h2; clear M1 h2)
    | (go_at_call 68; refine (HFF.out _).mono ?_; rintro e w3 ⟨rfl, h3⟩; have M3 := M2.later h3; clear M2 h3))
  all_goals
    go_wp2
    go_ret
    exact ⟨ret_i H.out, M3.below⟩

set_option maxRecDepth 100000 in
set_option maxHeartbeats 800000 in
theorem rhas_any (s : Int × Int) (o : Int) (w : World) : Calls Try.prog 70 #[spV s, .int .i64 o] w (RetB (hasB s o) w) := by
  have M0 := m1_new w s
  have HF := rof_any s
  have H : Hid (hasB s o = (decide ((ofP s).1 ≤ o) && decide (o < (ofP s).2))) := Lib.hid (has_of s o).symm
  generalize ofP s = p at *
  have HFF := Lib.hid HF
  clear HF
  have fl0 := run_f0 p
  have fl1 := run_f1 p
  by_cases h1 : p.1 ≤ o
  · go_enter Try.func70, Try.ntmps70
    go_wp2_with fail
    generalize w.alloc (.cells #[.int .i64 s.1, .int .i64 s.2] 36) = W at *
    generalize w.heap.size = B at *
    refine (HFF.out _).mono ?_
    rintro e w1 ⟨rfl, h1⟩
    have M1 := M0.later h1
    have c0 := M1.b0.c0; have c1 := M1.b0.c1
    clear h1 M0
    go_wp2_with fail
    refine (HFF.out _).mono ?_
    rintro e w2 ⟨rfl, h2⟩
    have M2 := M1.later h2
    go_wp2
    go_ret
    exact ⟨ret_b (by rw [H.out]; simp; omega), M2.below⟩
  · go_enter Try.func70, Try.ntmps70
    go_wp2_with fail
    generalize w.alloc (.cells #[.int .i64 s.1, .int .i64 s.2] 36) = W at *
    generalize w.heap.size = B at *
    refine (HFF.out _).mono ?_
    rintro e w1 ⟨rfl, h1⟩
    have M1 := M0.later h1
    go_wp2
    go_ret
    exact ⟨ret_b (by rw [H.out]; simp; omega), M1.below⟩

theorem SpAt.set0 {w : World} {B : Nat} {s : Int × Int} (h : SpAt w B s) (a : Int) : SpAt (w.setCell ⟨B, 0, none⟩ (.int .i64 a)) B (a, s.2) := (heap_setCell_same _ B 0 _ _ _ h).trans rfl
theorem SpAt.set1 {w : World} {B : Nat} {s : Int × Int} (h : SpAt w B s) (a : Int) : SpAt (w.setCell ⟨B, 1, none⟩ (.int .i64 a)) B (s.1, a) := (heap_setCell_same _ B 1 _ _ _ h).trans rfl
theorem M2.s00 {w0 : World} {B : Nat} {s t : Int × Int} {w : World} (h : M2 w0 B s t w) (a : Int) : M2 w0 B (a, s.2) t (w.setCell ⟨B, 0, none⟩ (.int .i64 a)) :=
  ⟨h.b0.set0 a, h.b1.keep ((Kept.refl [B] w).setCell (.inl (by simp)) _) (by simp), h.below.trans (((Kept.refl [B] w).setCell (.inl (by simp)) _).below (by simpa using h.le) h.below.size), h.le⟩

/-- two boxes: the result's, and one that was made later -/
structure MQ (w0 : World) (R A : Nat) (r a : Int × Int) (w : World) : Prop where
  r : SpAt w R r
  a : SpAt w A a
  ne : R ≠ A
  le : w0.heap.size ≤ R ∧ w0.heap.size ≤ A
  below : Below w0.heap.size w0 w
theorem MQ.later {w0 : World} {R A : Nat} {r a : Int × Int} {w w' : World} (h : MQ w0 R A r a w) (hb : Below w.heap.size w w') : MQ w0 R A r a w' :=
  ⟨h.r.later hb, h.a.later hb, h.ne, h.le, h.below.trans (hb.mono h.below.size)⟩
theorem MQ.a0 {w0 : World} {R A : Nat} {r a : Int × Int} {w : World} (h : MQ w0 R A r a w) (x : Int) : MQ w0 R A r (x, a.2) (w.setCell ⟨A, 0, none⟩ (.int .i64 x)) := by
  have hk := (Kept.refl [A] w).setCell (p := ⟨A, 0, none⟩) (.inl (by simp)) (.int .i64 x)
  exact ⟨h.r.keep hk (by simpa using h.ne), h.a.set0 x, h.ne, h.le, h.below.trans (hk.below (by simpa using h.le.2) h.below.size)⟩
theorem MQ.a1 {w0 : World} {R A : Nat} {r a : Int × Int} {w : World} (h : MQ w0 R A r a w) (x : Int) : MQ w0 R A r (a.1, x) (w.setCell ⟨A, 1, none⟩ (.int .i64 x)) := by
  have hk := (Kept.refl [A] w).setCell (p := ⟨A, 1, none⟩) (.inl (by simp)) (.int .i64 x)
  exact ⟨h.r.keep hk (by simpa using h.ne), h.a.set1 x, h.ne, h.le, h.below.trans (hk.below (by simpa using h.le.2) h.below.size)⟩
theorem MQ.putr {w0 : World} {R A : Nat} {r a : Int × Int} {w : World} (h : MQ w0 R A r a w) (x y : Int) : MQ w0 R A (x, y) a ((w.setCell ⟨R, 0, none⟩ (.int .i64 x)).setCell ⟨R, 1, none⟩ (.int .i64 y)) :=
  ⟨h.r.put x y, h.a.keep (kput w R _ _) (by simpa using h.ne.symm), h.ne, h.le, h.below.trans ((kput w R _ _).below (by simpa using h.le.1) h.below.size)⟩
theorem MQ.puta {w0 : World} {R A : Nat} {r a : Int × Int} {w : World} (h : MQ w0 R A r a w) (x y : Int) : MQ w0 R A r (x, y) ((w.setCell ⟨A, 0, none⟩ (.int .i64 x)).setCell ⟨A, 1, none⟩ (.int .i64 y)) :=
  ⟨h.r.keep (kput w A _ _) (by simpa using h.ne), h.a.put x y, h.ne, h.le, h.below.trans ((kput w A _ _).below (by simpa using h.le.2) h.below.size)⟩

set_option maxRecDepth 100000 in
set_option maxHeartbeats 1600000 in
theorem rmeet_any (s t : Int × Int) (w : World) : Calls Try.prog 33 #[spV s, spV t] w (RetS (meetP s t) w) := by
  obtain ⟨s1, s2, s3, b1⟩ := three_new w s t
  have M0 : M3 w w.heap.size s t (0, 0) (((w.alloc (.cells #[.int .i64 s.1, .int .i64 s.2] 36)).alloc (.cells #[.int .i64 t.1, .int .i64 t.2] 36)).alloc (.cells #[.int .i64 0, .int .i64 0] 36)) := ⟨s1, s2, s3, b1, Nat.le_refl _⟩
  clear s1 s2 s3 b1
  have H : Hid (ofP (if (ofP s).1 < (ofP t).1 then (ofP t).1 else (ofP s).1, if (ofP t).2 < (ofP s).2 then (ofP t).2 else (ofP s).2) = meetP s t) := Lib.hid (rmeet_eq s t)
  have HF := rof_any s
  have HG := rof_any t
  generalize ofP s = p at *
  generalize ofP t = q at *
  have HFF := Lib.hid HF
  have HGG := Lib.hid HG
  clear HF HG
  generalize meetP s t = r at *
  by_cases hx : p.1 < q.1
  · by_cases hy : q.2 < p.2
    · have H' : Hid (ofP (q.1, q.2) = r) := Lib.hid (by rw [← H.out, if_pos hx, if_pos hy])
      clear H
      go_enter Try.func33, Try.ntmps33
      go_wp2_with fail
      generalize ((w.alloc (.cells #[.int .i64 s.1, .int .i64 s.2] 36)).alloc (.cells #[.int .i64 t.1, .int .i64 t.2] 36)).alloc (.cells #[.int .i64 0, .int .i64 0] 36) = W at *
      generalize hB : w.heap.size = B at M0 ⊢
      refine (HFF.out _).mono ?_
      rintro e w1 ⟨rfl, h1⟩
      have M1 := M0.later h1
      have c0 := M1.b1.c0; have c1 := M1.b1.c1
      have n1 := M1.b0.lt; have n2 := M1.b1.lt; have n3 := M1.b2.lt; have n4 := M1.below.size
      clear h1 M0
      go_wp2_with fail
      refine (HGG.out _).mono ?_
      rintro e w2 ⟨rfl, h2⟩
      have A2 := (sp_new w1 p).later h2
      have R2 := (M1.b2.later (bal (.cells #[.int .i64 p.1, .int .i64 p.2] 36))).later h2
      have n5 := A2.lt
      have MA : MQ w (B + 1 + 1) w1.heap.size (0, 0) p w2 := ⟨R2, A2, by omega, ⟨by omega, by omega⟩, ((M1.below.alloc n4 (.cells #[.int .i64 p.1, .int .i64 p.2] 36)).trans (h2.mono (by simp; omega)))⟩
      clear M1 c0 c1 h2 A2 R2
      have f0 := MA.a.f0; have f1 := MA.a.f1
      have c0 := MA.a.c0; have c1 := MA.a.c1
      go_wp2_with fail
      generalize w1.heap.size = A at *
      have MB := ((MA.a0 q.1).a1 q.2).later (bal (.cells #[.int .i64 q.1, .int .i64 q.2] 36))
      clear MA c0 c1 f0 f1
      generalize ((w2.setCell ⟨A, 0, none⟩ (.int .i64 q.1)).setCell ⟨A, 1, none⟩ (.int .i64 q.2)).alloc (.cells #[.int .i64 q.1, .int .i64 q.2] 36) = W3 at *
      refine (rof_any (q.1, q.2) _).mono ?_
      rintro e w4 ⟨rfl, h4⟩
      rw [H'.out]
      have MC := MB.later h4
      clear MB h4
      have MD := MC.putr r.1 r.2
      have e0 := MC.r.c0; have e1 := MC.r.c1; have g0 := MC.r.f0; have g1 := MC.r.f1
      clear MC
      go_wp2_with fail
      generalize (w4.setCell ⟨B + 1 + 1, 0, none⟩ (.int .i64 r.1)).setCell ⟨B + 1 + 1, 1, none⟩ (.int .i64 r.2) = w5 at *
      have k0 := MD.r.c0; have k1 := MD.r.c1
      have hb := MD.below
      clear MD
      exact bodyPost_ret (v := spV r) (by simp [results, Try.results33, go_sem, k0, k1]) rfl ⟨rfl, hb⟩
    · have H' : Hid (ofP (q.1, p.2) = r) := Lib.hid (by rw [← H.out, if_pos hx, if_neg hy])
      clear H
      go_enter Try.func33, Try.ntmps33
      go_wp2_with fail
      generalize ((w.alloc (.cells #[.int .i64 s.1, .int .i64 s.2] 36)).alloc (.cells #[.int .i64 t.1, .int .i64 t.2] 36)).alloc (.cells #[.int .i64 0, .int .i64 0] 36) = W at *
      generalize hB : w.heap.size = B at M0 ⊢
      refine (HFF.out _).mono ?_
      rintro e w1 ⟨rfl, h1⟩
      have M1 := M0.later h1
      have c0 := M1.b1.c0; have c1 := M1.b1.c1
      have n1 := M1.b0.lt; have n2 := M1.b1.lt; have n3 := M1.b2.lt; have n4 := M1.below.size
      clear h1 M0
      go_wp2_with fail
      refine (HGG.out _).mono ?_
      rintro e w2 ⟨rfl, h2⟩
      have A2 := (sp_new w1 p).later h2
      have R2 := (M1.b2.later (bal (.cells #[.int .i64 p.1, .int .i64 p.2] 36))).later h2
      have n5 := A2.lt
      have MA : MQ w (B + 1 + 1) w1.heap.size (0, 0) p w2 := ⟨R2, A2, by omega, ⟨by omega, by omega⟩, ((M1.below.alloc n4 (.cells #[.int .i64 p.1, .int .i64 p.2] 36)).trans (h2.mono (by simp; omega)))⟩
      clear M1 c0 c1 h2 A2 R2
      have f0 := MA.a.f0; have f1 := MA.a.f1
      have c0 := MA.a.c0; have c1 := MA.a.c1
      go_wp2_with fail
      generalize w1.heap.size = A at *
      have MB := (MA.a0 q.1).later (bal (.cells #[.int .i64 q.1, .int .i64 q.2] 36))
      clear MA c0 c1 f0 f1
      generalize (w2.setCell ⟨A, 0, none⟩ (.int .i64 q.1)).alloc (.cells #[.int .i64 q.1, .int .i64 q.2] 36) = W3 at *
      refine (rof_any (q.1, p.2) _).mono ?_
      rintro e w4 ⟨rfl, h4⟩
      rw [H'.out]
      have MC := MB.later h4
      clear MB h4
      have MD := MC.putr r.1 r.2
      have e0 := MC.r.c0; have e1 := MC.r.c1; have g0 := MC.r.f0; have g1 := MC.r.f1
      clear MC
      go_wp2_with fail
      generalize (w4.setCell ⟨B + 1 + 1, 0, none⟩ (.int .i64 r.1)).setCell ⟨B + 1 + 1, 1, none⟩ (.int .i64 r.2) = w5 at *
      have k0 := MD.r.c0; have k1 := MD.r.c1
      have hb := MD.below
      clear MD
      exact bodyPost_ret (v := spV r) (by simp [results, Try.results33, go_sem, k0, k1]) rfl ⟨rfl, hb⟩
  · by_cases hy : q.2 < p.2
    · have H' : Hid (ofP (p.1, q.2) = r) := Lib.hid (by rw [← H.out, if_neg hx, if_pos hy])
      clear H
      go_enter Try.func33, Try.ntmps33
      go_wp2_with fail
      generalize ((w.alloc (.cells #[.int .i64 s.1, .int .i64 s.2] 36)).alloc (.cells #[.int .i64 t.1, .int .i64 t.2] 36)).alloc (.cells #[.int .i64 0, .int .i64 0] 36) = W at *
      generalize hB : w.heap.size = B at M0 ⊢
      refine (HFF.out _).mono ?_
      rintro e w1 ⟨rfl, h1⟩
      have M1 := M0.later h1
      have c0 := M1.b1.c0; have c1 := M1.b1.c1
      have n1 := M1.b0.lt; have n2 := M1.b1.lt; have n3 := M1.b2.lt; have n4 := M1.below.size
      clear h1 M0
      go_wp2_with fail
      refine (HGG.out _).mono ?_
      rintro e w2 ⟨rfl, h2⟩
      have A2 := (sp_new w1 p).later h2
      have R2 := (M1.b2.later (bal (.cells #[.int .i64 p.1, .int .i64 p.2] 36))).later h2
      have n5 := A2.lt
      have MA : MQ w (B + 1 + 1) w1.heap.size (0, 0) p w2 := ⟨R2, A2, by omega, ⟨by omega, by omega⟩, ((M1.below.alloc n4 (.cells #[.int .i64 p.1, .int .i64 p.2] 36)).trans (h2.mono (by simp; omega)))⟩
      clear M1 c0 c1 h2 A2 R2
      have f0 := MA.a.f0; have f1 := MA.a.f1
      have c0 := MA.a.c0; have c1 := MA.a.c1
      go_wp2_with fail
      generalize w1.heap.size = A at *
      have MB := (MA.a1 q.2).later (bal (.cells #[.int .i64 q.1, .int .i64 q.2] 36))
      clear MA c0 c1 f0 f1
      generalize ((w2).setCell ⟨A, 1, none⟩ (.int .i64 q.2)).alloc (.cells #[.int .i64 q.1, .int .i64 q.2] 36) = W3 at *
      refine (rof_any (p.1, q.2) _).mono ?_
      rintro e w4 ⟨rfl, h4⟩
      rw [H'.out]
      have MC := MB.later h4
      clear MB h4
      have MD := MC.putr r.1 r.2
      have e0 := MC.r.c0; have e1 := MC.r.c1; have g0 := MC.r.f0; have g1 := MC.r.f1
      clear MC
      go_wp2_with fail
      generalize (w4.setCell ⟨B + 1 + 1, 0, none⟩ (.int .i64 r.1)).setCell ⟨B + 1 + 1, 1, none⟩ (.int .i64 r.2) = w5 at *
      have k0 := MD.r.c0; have k1 := MD.r.c1
      have hb := MD.below
      clear MD
      exact bodyPost_ret (v := spV r) (by simp [results, Try.results33, go_sem, k0, k1]) rfl ⟨rfl, hb⟩
    · have H' : Hid (ofP (p.1, p.2) = r) := Lib.hid (by rw [← H.out, if_neg hx, if_neg hy])
      clear H
      go_enter Try.func33, Try.ntmps33
      go_wp2_with fail
      generalize ((w.alloc (.cells #[.int .i64 s.1, .int .i64 s.2] 36)).alloc (.cells #[.int .i64 t.1, .int .i64 t.2] 36)).alloc (.cells #[.int .i64 0, .int .i64 0] 36) = W at *
      generalize hB : w.heap.size = B at M0 ⊢
      refine (HFF.out _).mono ?_
      rintro e w1 ⟨rfl, h1⟩
      have M1 := M0.later h1
      have c0 := M1.b1.c0; have c1 := M1.b1.c1
      have n1 := M1.b0.lt; have n2 := M1.b1.lt; have n3 := M1.b2.lt; have n4 := M1.below.size
      clear h1 M0
      go_wp2_with fail
      refine (HGG.out _).mono ?_
      rintro e w2 ⟨rfl, h2⟩
      have A2 := (sp_new w1 p).later h2
      have R2 := (M1.b2.later (bal (.cells #[.int .i64 p.1, .int .i64 p.2] 36))).later h2
      have n5 := A2.lt
      have MA : MQ w (B + 1 + 1) w1.heap.size (0, 0) p w2 := ⟨R2, A2, by omega, ⟨by omega, by omega⟩, ((M1.below.alloc n4 (.cells #[.int .i64 p.1, .int .i64 p.2] 36)).trans (h2.mono (by simp; omega)))⟩
      clear M1 c0 c1 h2 A2 R2
      have f0 := MA.a.f0; have f1 := MA.a.f1
      have c0 := MA.a.c0; have c1 := MA.a.c1
      go_wp2_with fail
      generalize w1.heap.size = A at *
      have MB := (MA).later (bal (.cells #[.int .i64 q.1, .int .i64 q.2] 36))
      clear MA c0 c1 f0 f1
      generalize (w2).alloc (.cells #[.int .i64 q.1, .int .i64 q.2] 36) = W3 at *
      refine (rof_any (p.1, p.2) _).mono ?_
      rintro e w4 ⟨rfl, h4⟩
      rw [H'.out]
      have MC := MB.later h4
      clear MB h4
      have MD := MC.putr r.1 r.2
      have e0 := MC.r.c0; have e1 := MC.r.c1; have g0 := MC.r.f0; have g1 := MC.r.f1
      clear MC
      go_wp2_with fail
      generalize (w4.setCell ⟨B + 1 + 1, 0, none⟩ (.int .i64 r.1)).setCell ⟨B + 1 + 1, 1, none⟩ (.int .i64 r.2) = w5 at *
      have k0 := MD.r.c0; have k1 := MD.r.c1
      have hb := MD.below
      clear MD
      exact bodyPost_ret (v := spV r) (by simp [results, Try.results33, go_sem, k0, k1]) rfl ⟨rfl, hb⟩
end Go.Proofs.Ytekddgmmfgpehaa.sp
/-!   Package heard: its ring.
-/
namespace Go.Proofs.Ytekddgmmfgpehaa.hd
open Go.RowKit aid mem sp rn
attribute [local go_sem ↓] Go.wp_at_zero Go.wp_at_succ
set_option linter.unusedVariables false
set_option linter.unusedSimpArgs false

theorem info_u8 : (Try.prog.info? 5).map (fun i => (i.zero, i.size, i.bytes)) = some (some (.int .u8 0), 1, 1) := by kernel_rfl
abbrev BRow (w : World) (a : Option Addr) (n cap : Nat) (l : List Int) : Prop := SlR w 5 1 a n cap (ints .u8 l)
/-- a ring's block -/
abbrev RgAt (w : World) (g : Nat) (R : List Int) (T : List Value) : Prop := w.heap[g]? = some (.cells (ints .u8 R ++ T).toArray 5 (0, 0))
theorem rg_cell {w : World} {g : Nat} {R : List Int} {T : List Value} (h : RgAt w g R T) (i : Nat) (hi : i < R.length) : w.cell? ⟨g, i, none⟩ = some (.int .u8 (R.getD i 0)) := by
  rw [cell_of_row w g _ _ _ (0, 0) h, List.getElem?_toArray, List.getElem?_append_left (by simpa [ints] using hi), ints, getD_map_some hi]
theorem rg_set {w : World} {g : Nat} {R : List Int} {T : List Value} (h : RgAt w g R T) (i : Nat) (hi : i < R.length) (c : Int) : RgAt (w.setCell ⟨g, i, none⟩ (.int .u8 c)) g (R.set i c) T := by
  have e0 := heap_setCell_same w g i _ _ (.int .u8 c) h
  unfold RgAt
  rw [e0]
  congr 2
  apply Array.ext'
  simp only [Array.toList_setIfInBounds]
  rw [List.set_append_left _ _ (by simpa [ints] using hi)]
  simp [ints, List.map_set]
theorem take_snoc {l : List Int} {k : Nat} (h : k < l.length) : l.take (k + 1) = l.take k ++ [l.getD k 0] := by
  rw [List.take_succ_eq_append_getElem h]
  simp [List.getD, h]
theorem mods (f k m : Nat) (hm : 0 < m) : ((f : Int) + (k : Int)).tmod (m : Int) = (((f + k) % m : Nat) : Int) ∧ ((f : Int) + (k : Int)) % (m : Int) = (((f + k) % m : Nat) : Int) ∧ (f + k) % m < m := by
  have e : ((f : Int) + (k : Int)) % (m : Int) = (((f + k) % m : Nat) : Int) := by simp
  refine ⟨?_, e, Nat.mod_lt _ hm⟩
  rw [tmod_pos _ _ (by omega)]
  exact e
set_option maxHeartbeats 4000000 in
theorem lay_any {w : World} {g rc m : Nat} {R : List Int} {T : List Value} (hg : RgAt w g R T) (hR : R.length = m) (h0 : 0 < m) (hm : m ≤ 65536) (f : Nat) (hf : f ≤ 1000000000000) {a : Option Addr} {n cap : Nat} {p : List Int} (hp : SlA .u8 w a n cap p) (hd : ∀ x, a = some x → 0 < n → x.block ≠ g) (hn : n ≤ 65536) :
    Calls Try.prog 25 #[.slice (some ⟨g, 0, none⟩) m rc, .int .i64 (f : Int), .slice a n cap] w fun e w' => e = .returned (.tuple #[]) ∧ RgAt w' g (layR R f p) T ∧ Kept [g] w w' := by
  have HP := Lib.hid hp
  have HD := Lib.hid hd
  have hlen := hp.len
  have hle := hp.le
  have hk0 : RgAt w g (layR R f (p.take 0)) T := hg
  clear hp hd hg
  go_enter Try.func25, Try.ntmps25
  go_wp2
  go_loopw [9] (fun i wr => ∃ k : Nat, k ≤ n ∧ i = .int .i64 k ∧ RgAt wr g (layR R f (p.take k)) T ∧ Kept [g] w wr) (fun i _ => n - (intOf i).toNat)
  case atStart => exact ⟨0, Nat.zero_le _, rfl, hk0, Kept.refl _ _⟩
  case round =>
    obtain ⟨k, hk, rfl, hr, hkp⟩ := hrel
    clear hk0
    by_cases hlt : k < n
    · obtain ⟨b, off, rfl, hc⟩ := HP.out.cells (by omega)
      have hbg : b ≠ g := HD.out _ rfl (by omega)
      have c0 := hkp.cell (p := ⟨b, off + k, none⟩) (by simpa using hbg) (hc k hlt)
      obtain ⟨e1, e2, e3⟩ := mods f k m h0
      have hl : (layR R f (p.take k)).length = m := by rw [layR_len]; exact hR
      have hs : layR R f (p.take (k + 1)) = (layR R f (p.take k)).set ((f + k) % m) (p.getD k 0) := by
        rw [take_snoc (by omega), layR_snoc, hR, List.length_take, show min k p.length = k by omega]
      have HS := Lib.hid hs
      have hw1 : IntKind.i64.wrap ((f : Int) + (k : Int)) = (f : Int) + (k : Int) := IntWalk.i64_in _ (by omega)
      generalize layR R f (p.take k) = L at *
      generalize (f + k) % m = q at *
      generalize p.getD k 0 = c at *
      have c1 := rg_cell hr q (by omega)
      have g1 : wr.frozen? ⟨g, q, none⟩ = false := by simp [World.frozen?, hr]
      have hm0 : ¬ (m : Int) = 0 := by omega
      have HF := Lib.hid (show RgAt (wr.setCell ⟨g, q, none⟩ (.int .u8 c)) g (layR R f (p.take (k + 1))) T ∧ Kept [g] w (wr.setCell ⟨g, q, none⟩ (.int .u8 c)) from ⟨by rw [HS.out]; exact rg_set hr q (by omega) c, hkp.setCell (.inl (by simp)) _⟩)
      clear hc hs hr hkp hl
      generalize L.getD q 0 = z at *
      go_wp2
      go_region
      go_wp2
      go_roundw
      case rel => exact ⟨k + 1, by omega, by go_num, HF.out.1, HF.out.2.drew⟩
      case measure => simp [intOf]; omega
    · go_wp2
      go_end0
      refine ⟨rfl, ?_, hkp⟩
      rw [List.take_of_length_le (by omega)] at hr
      exact hr
theorem info_split8 : ∃ i, Try.prog.info? 5 = some i ∧ i.zero = some (.int .u8 0) ∧ i.size = 1 ∧ i.bytes = 1 := info_split info_u8
set_option maxHeartbeats 4000000 in
theorem move_any {w : World} {g rc m : Nat} {R : List Int} {T : List Value} (hg : RgAt w g R T) (hR : R.length = m) (h0 : 0 < m) (hm : m ≤ 65536) {a : Option Addr} {n cap : Nat} {l : List Int} (h : BRow w a n cap l) (hng : g ∉ blk a cap) (f k : Nat) (hf : f ≤ 1000000000000) (hn : n + k ≤ 1000000000000) :
    Calls Try.prog 26 #[.slice (some ⟨g, 0, none⟩) m rc, .slice a n cap, .int .i64 (f : Int), .int .i64 (k : Int)] w fun e w' => ∃ a' cap', e = .returned (.slice a' (n + k) cap') ∧ BRow w' a' (n + k) cap' (l ++ mvR R f k) ∧ Kept (blk a cap) w w' ∧ ∀ b ∈ blk a' cap', b ∈ blk a cap ∨ w.heap.size ≤ b := by
  obtain ⟨i0, hi, hz0, hz1, hz2⟩ := info_split8
  have HG := Lib.hid hg
  have hgl := lt_of_block hg
  have HN := Lib.hid hng
  have hk0 : BRow w a (n + 0) cap (l ++ mvR R f 0) := by simpa [mvR] using h
  have HBL := Lib.hid (fun b (hb : b ∈ blk a cap) => (h.lt b hb).1)
  clear h hg hng
  go_enter Try.func26, Try.ntmps26
  go_wp2
  go_loopw [1, 11] (fun v i wr => ∃ (q : Nat) (a' : Option Addr) (cap' : Nat), q ≤ k ∧ v = .slice a' (n + q) cap' ∧ i = .int .i64 q ∧ BRow wr a' (n + q) cap' (l ++ mvR R f q) ∧ Kept (blk a cap) w wr ∧ ∀ b ∈ blk a' cap', b ∈ blk a cap ∨ w.heap.size ≤ b) (fun _ i _ => k - (intOf i).toNat)
  case atStart => exact ⟨0, a, cap, Nat.zero_le _, rfl, rfl, hk0, Kept.refl _ _, fun b hb => .inl hb⟩
  case round =>
    obtain ⟨q, a', cap', hq, rfl, rfl, hr, hkp, hbl⟩ := hrel
    clear hk0
    by_cases hlt : q < k
    · obtain ⟨e1, e2, e3⟩ := mods f q m h0
      have hG : RgAt wr g R T := hkp.heap HN.out HG.out
      have HS := Lib.hid (show mvR R f (q + 1) = mvR R f q ++ [R.getD ((f + q) % m) 0] from by rw [mvR_snoc, hR])
      have hw1 : IntKind.i64.wrap ((f : Int) + (q : Int)) = (f : Int) + (q : Int) := IntWalk.i64_in _ (by omega)
      generalize (f + q) % m = j at *
      have c1 := rg_cell hG j (by omega)
      generalize R.getD j 0 = c at *
      have hm0 : ¬ (m : Int) = 0 := by omega
      have b1 := bal (w := wr) (.cells #[.int .u8 c] 5)
      have HO := Lib.hid (hr.later b1)
      have HSRC := Lib.hid ((sl_new .u8 5 wr [c] (by simp [maxLen])).src (P := Try.prog) Try.underlying24)
      have HK1 := Lib.hid (hkp.alloc (.cells #[.int .u8 c] 5))
      have HB := Lib.hid hbl
      have HZ := Lib.hid hkp.size
      clear hr hkp hbl b1 hG
      go_wp2_with (at_builtin; refine wpList_append_slr _ rfl (.tmp 14) (.tmp 24) 24 24 rfl 5 i0 (.int .u8 0) 1 1 Try.underlying24 hi hz0 hz1 (by decide) hz2 rfl a' (n + q) cap' _ rfl HO.out _ rfl 1 (by decide) (ints .u8 [c]) HSRC.out (by unfold maxLen; omega) (by omega) ?_; intro a3 cap3 w3 hrow hkp3 hat3)
      have HF := Lib.hid (show BRow w3 a3 (n + (q + 1)) cap3 (l ++ mvR R f (q + 1)) ∧ Kept (blk a cap) w w3 ∧ ∀ b ∈ blk a3 cap3, b ∈ blk a cap ∨ w.heap.size ≤ b from ⟨by
        rw [HS.out, ← List.append_assoc]
        have e : ints .u8 (l ++ mvR R f q ++ [c]) = ints .u8 (l ++ mvR R f q) ++ ints .u8 [c] := List.map_append
        unfold BRow
        rw [e]
        exact hrow, HK1.out.trans hkp3 (fun b hb => HB.out b hb), fun b hb => by
        rcases hat3 b hb with e | e
        · exact HB.out b e
        · have := HZ.out
          simp at e
          exact .inr (by omega)⟩)
      clear hrow hkp3 hat3
      go_wp2
      go_roundw
      case rel => exact ⟨q + 1, a3, cap3, by omega, rfl, by go_num, HF.out.1, HF.out.2⟩
      case measure => simp [intOf]; omega
    · obtain rfl : q = k := by omega
      go_wp2
      go_ret
      exact ⟨a', cap', rfl, hr, hkp, hbl⟩
end Go.Proofs.Ytekddgmmfgpehaa.hd
/-!   Ranges over functions, iterators within iterators among them: what a round writes and what an iterator writes are told apart by a set of blocks. Imports nothing of the program.
-/
namespace Go.Proofs.Ytekddgmmfgpehaa.rng
open Go.RowKit mem
set_option linter.unusedVariables false

/-- a step that leaves some blocks as they lay -/
structure Steps (K : Nat → Prop) (W W' : World) : Prop where
  os : W'.os = W.os
  tape : W'.tape = W.tape
  output : W'.output = W.output
  size : W.heap.size ≤ W'.heap.size
  same : ∀ k, k < W.heap.size → K k → W'.heap[k]? = W.heap[k]?
theorem Steps.refl (K : Nat → Prop) (W : World) : Steps K W W := ⟨rfl, rfl, rfl, Nat.le_refl _, fun _ _ _ => rfl⟩
theorem Steps.trans {K : Nat → Prop} {A B C : World} (h : Steps K A B) (k : Steps K B C) : Steps K A C :=
  ⟨k.os.trans h.os, k.tape.trans h.tape, k.output.trans h.output, Nat.le_trans h.size k.size, fun x hx hk => (k.same x (Nat.lt_of_lt_of_le hx h.size) hk).trans (h.same x hx hk)⟩
theorem Steps.mono {K K' : Nat → Prop} {A B : World} (h : Steps K A B) (hk : ∀ k, k < A.heap.size → K' k → K k) : Steps K' A B :=
  ⟨h.os, h.tape, h.output, h.size, fun x hx q => h.same x hx (hk x hx q)⟩
theorem Steps.of_below {w w' : World} (h : Below w.heap.size w w') (K : Nat → Prop) : Steps K w w' := ⟨h.os, h.tape, h.output, h.size, fun k hk _ => h.block k hk⟩
theorem Steps.of_kept {S : List Nat} {w w' : World} (h : Kept S w w') (K : Nat → Prop) (hK : ∀ k ∈ S, ¬ K k) : Steps K w w' :=
  ⟨h.os, h.tape, h.output, h.size, fun k hk q => h.block k hk (fun e => hK k e q)⟩
theorem Steps.below {K : Nat → Prop} {w w' : World} {n : Nat} (h : Steps K w w') (hn : n ≤ w.heap.size) (hK : ∀ k, k < n → K k) : Below n w w' :=
  ⟨h.os, h.tape, h.output, h.size, fun k hk => h.same k (by omega) (hK k hk)⟩
theorem Steps.drew (K : Nat → Prop) (W : World) : Steps K W W.drew := ⟨rfl, rfl, rfl, Nat.le_refl _, fun _ _ _ => rfl⟩
theorem Steps.drewN (K : Nat → Prop) (W : World) (n : Nat) : Steps K W (W.drewN n) := ⟨rfl, rfl, rfl, Nat.le_refl _, fun _ _ _ => rfl⟩
theorem Steps.alloc (K : Nat → Prop) (W : World) (o : Obj) : Steps K W (W.alloc o) := .of_below ((Below.refl _ _).alloc (Nat.le_refl _) _) K
theorem Steps.setCell (K : Nat → Prop) (W : World) (p : Addr) (v : Value) (hp : ¬ K p.block) : Steps K W (W.setCell p v) :=
  .of_kept ((Kept.refl [p.block] W).setCell (.inl (by simp)) v) K (by simpa using hp)
theorem Steps.putObj (K : Nat → Prop) (W : World) (l : Nat) (o : Obj) (hl : ¬ K l) : Steps K W (W.putObj l o) :=
  ⟨rfl, rfl, rfl, by simp, fun k hk q => World.putObj_heap_other (fun e => hl (e ▸ q))⟩
theorem Steps.cell {K : Nat → Prop} {w w' : World} (h : Steps K w w') {p : Addr} {v : Value} (hp : K p.block) (hc : w.cell? p = some v) : w'.cell? p = some v :=
  (World.cell?_of_block (h.same p.block (World.block_lt_of_cell? w p hc) hp)).trans hc
theorem Steps.heap {K : Nat → Prop} {w w' : World} (h : Steps K w w') {k : Nat} {o : Obj} (hp : K k) (hc : w.heap[k]? = some o) : w'.heap[k]? = some o :=
  (h.same k (lt_of_block hc) hp).trans hc

/-- a call of yield -/
def Yd (P : Program) (l : Nat) (args : Array Value) (W : World) (R : Ending → World → Prop) : Prop := YieldAt Fence.wide 0 P l args W R
theorem Yd.at {P : Program} {l : Nat} {args : Array Value} {W : World} {R : Ending → World → Prop} (h : Yd P l args W R) (m : Nat) : YieldAt Fence.wide m P l args W R := by
  obtain ⟨fn, tmps, assign, body, hy, h1, h2⟩ := h
  exact ⟨fn, tmps, assign, body, hy, h1, fun c cs _ => h2 c cs (room_wide _)⟩
theorem Yd.inRound {P : Program} {l : Nat} {args : Array Value} {W : World} {R : Ending → World → Prop} (h : Yd P l args W R) (l' m : Nat) : YieldAt (Fence.wide.inRound l') m P l args W R := h.at m
theorem Yd.mono {P : Program} {l : Nat} {args : Array Value} {W : World} {R R' : Ending → World → Prop} (h : Yd P l args W R) (hr : ∀ e w, R e w → R' e w) : Yd P l args W R' := YieldAt.mono h hr
theorem Yd.of {P : Program} {l : Nat} {args : Array Value} {W : World} {R : Ending → World → Prop} {m : Nat} (h : YieldAt Fence.wide m P l args W R) : Yd P l args W R := by
  obtain ⟨fn, tmps, assign, body, hy, h1, h2⟩ := h
  exact ⟨fn, tmps, assign, body, hy, h1, fun c cs _ => h2 c cs (room_wide _)⟩

/-- the consumer's invariant bears the iterator's steps, from block n on -/
def Bears {β : Type} (n : Nat) (J : β → (Nat → Prop) → World → Prop) : Prop :=
  ∀ s C W1 W2, J s C W1 → n ≤ W1.heap.size → Steps (fun k => k < n ∨ C k) W1 W2 → J s C W2
/-- a round: what the consumer may write has grown by new blocks alone; all else lies as it lay -/
def Round (C : Nat → Prop) (W : World) (C' : Nat → Prop) (W' : World) : Prop :=
  Steps (fun k => ¬ C k) W W' ∧ ∀ k, C' k → C k ∨ (W.heap.size ≤ k ∧ k < W'.heap.size)
theorem Round.refl (C : Nat → Prop) (W : World) : Round C W C W := ⟨Steps.refl _ _, fun _ h => .inl h⟩
theorem Round.trans {C C' C'' : Nat → Prop} {A B D : World} (h : Round C A C' B) (k : Round C' B C'' D) : Round C A C'' D := by
  refine ⟨⟨k.1.os.trans h.1.os, k.1.tape.trans h.1.tape, k.1.output.trans h.1.output, Nat.le_trans h.1.size k.1.size, fun x hx hn => ?_⟩, fun x hx => ?_⟩
  · refine (k.1.same x (Nat.lt_of_lt_of_le hx h.1.size) (fun e => ?_)).trans (h.1.same x hx hn)
    rcases h.2 x e with e | e
    · exact hn e
    · omega
  · have a := h.1.size
    have b := k.1.size
    rcases k.2 x hx with e | e
    · rcases h.2 x e with e | e
      · exact .inl e
      · exact .inr ⟨e.1, by omega⟩
    · exact .inr ⟨by omega, e.2⟩
/-- new blocks may be taken in -/
theorem Round.take {C C' : Nat → Prop} {W W' : World} (h : Round C W C' W') : Round C W (fun k => C' k ∨ (W.heap.size ≤ k ∧ k < W'.heap.size)) W' :=
  ⟨h.1, fun k hk => by rcases hk with hk | hk; exact h.2 k hk; exact .inr hk⟩
theorem Round.of_below {w w' : World} (h : Below w.heap.size w w') (C : Nat → Prop) : Round C w C w' := ⟨Steps.of_below h _, fun _ h => .inl h⟩
theorem Round.of_kept {S : List Nat} {w w' : World} {C : Nat → Prop} (h : Kept S w w') (hS : ∀ k ∈ S, C k) : Round C w C w' := ⟨Steps.of_kept h _ (fun k hk q => q (hS k hk)), fun _ h => .inl h⟩

/-- a region in a round whose operations defer nothing is walked as anywhere -/
theorem wpOpIn_round {n : Nat} {P : Program} {ops : Array Oper} {Q : Exit → Act → World → Prop} {l i : Nat} {K : Act → World → Prop} {a : Act} {w : World} (hd : ∀ (i : Nat) (o : Oper), ops[i]? = some o → ∀ c, o.op ≠ .defer c)
    (h : wpOpIn Fence.wide n P ops Q i K a w) : wpOpIn (Fence.wide.inRound l) n P ops Q i K a w := by
  unfold wpOpIn at *
  cases ho : ops[i]? with
  | none => rw [ho] at h; exact h
  | some o =>
    rw [ho] at h
    simp only at h ⊢
    split
    · rename_i hw
      rw [if_pos hw] at h
      unfold Oper.wpIn at *
      refine ⟨h.1, ?_⟩
      have h2 := h.2
      rw [show Fence.wide.round = none from rfl, Oper.semAt_none] at h2
      rw [Oper.semAt_eq _ _ _ (hd i o ho)]
      exact h2
    · rename_i hw
      rw [if_neg hw] at h
      exact h
theorem wpAnyIn_round {n : Nat} {P : Program} {ops : Array Oper} {Q : Exit → Act → World → Prop} {md : Region.Mode} {l : Nat} (hd : ∀ (i : Nat) (o : Oper), ops[i]? = some o → ∀ c, o.op ≠ .defer c) :
    ∀ {fuel : Nat} {listed : Array Bool} {a : Act} {w : World}, wpAnyIn Fence.wide n P md ops Q fuel listed a w → wpAnyIn (Fence.wide.inRound l) n P md ops Q fuel listed a w := by
  intro fuel
  induction fuel with
  | zero => intro listed a w h; exact h
  | succ fuel ih => intro listed a w h; exact ⟨h.1, fun i hi => wpOpIn_mono (fun a w h => ih h) (wpOpIn_round hd (h.2 i hi))⟩
def noDefer (ops : Array Oper) : Bool := ops.all (fun o => match o.op with | .defer _ => false | _ => true)
theorem noDefer_spec {ops : Array Oper} (h : noDefer ops = true) : ∀ (i : Nat) (o : Oper), ops[i]? = some o → ∀ c, o.op ≠ .defer c := by
  intro i o ho c hc
  unfold noDefer at h
  rw [Array.all_eq_true] at h
  obtain ⟨hlt, he⟩ := Array.getElem?_eq_some_iff.1 ho
  have := h i hlt
  rw [he, hc] at this
  simp at this
theorem wpIn_region_round {P : Program} {n l id : Nat} {ops : Array Oper} {Q : Exit → Act → World → Prop} {a : Act} {w : World} (hm : P.follows .mixedOrders = true) (hd : noDefer ops = true)
    (h : wpAnyIn Fence.wide n P .any ops Q ops.size (Array.replicate ops.size false) a w.drew) : (Code.region id ops true).wpIn (Fence.wide.inRound l) n P Q a w :=
  wpIn_region_any hm (wpAnyIn_round (noDefer_spec hd) h)

/-- the end of a round, in one piece -/
theorem one_way {C : Nat → Prop} {W W' : World} {e : Ending} {X Y : (Nat → Prop) → Prop} (h : ∃ C', Round C W C' W' ∧ ((e = .returned (.bool true) ∧ X C') ∨ (e = .returned (.bool false) ∧ Y C'))) :
    ∃ b, e = .returned (.bool b) ∧ ∃ C', Round C W C' W' ∧ ((b = true ∧ X C') ∨ (b = false ∧ Y C')) := by
  obtain ⟨C', hr, ⟨rfl, h⟩ | ⟨rfl, h⟩⟩ := h
  · exact ⟨true, rfl, C', hr, .inl ⟨rfl, h⟩⟩
  · exact ⟨false, rfl, C', hr, .inr ⟨rfl, h⟩⟩
/-- the contract of an iterator that tells the list L; A: what of the old blocks the consumer may write -/
def SeqOf {α : Type} (P : Program) (g : Nat) (lb : Array Value) (encs : α → Array Value) (L : List α) (A : Nat → Prop) (w : World) : Prop :=
  ∀ (l : Nat) (J Jx : List α → (Nat → Prop) → World → Prop) (C0 : Nat → Prop) (W : World),
    Below w.heap.size w W → (∀ k, C0 k → (A k ∨ w.heap.size ≤ k) ∧ k < W.heap.size) → Bears W.heap.size J → Bears W.heap.size Jx →
    (∀ pre x C W1, J pre C W1 → W.heap.size ≤ W1.heap.size → pre ++ [x] <+: L → Yd P l (encs x) W1 fun e W' =>
      ∃ C', Round C W1 C' W' ∧ ((e = .returned (.bool true) ∧ J (pre ++ [x]) C' W') ∨ (e = .returned (.bool false) ∧ Jx (pre ++ [x]) C' W'))) →
    J [] C0 W →
    Calls P g (#[.func (.yield l) #[] #[]] ++ lb) W fun e W' => (∃ v, e = .returned v) ∧ ∃ C', J L C' W' ∨ ∃ pre, Jx pre C' W'
theorem SeqOf.later {α : Type} {P : Program} {g : Nat} {lb : Array Value} {encs : α → Array Value} {L : List α} {A : Nat → Prop} {w w' : World} (h : SeqOf P g lb encs L A w) (hb : Below w.heap.size w w') {A' : Nat → Prop} (hA : ∀ k, A' k → A k ∨ w.heap.size ≤ k) : SeqOf P g lb encs L A' w' :=
  fun l J Jx C0 W hW hC hJ hJx hY h0 => h l J Jx C0 W (hb.trans (hW.mono hb.size)) (fun k hk => by
    have := hb.size
    obtain ⟨a, b⟩ := hC k hk
    refine ⟨?_, b⟩
    rcases a with a | a
    · exact hA k a
    · exact .inr (by omega)) hJ hJx hY h0

/-- what an iterator knows while it runs: W: the world when it was called -/
structure It (C0 : Nat → Prop) (W : World) (C : Nat → Prop) (W1 : World) : Prop where
  grow : ∀ k, C k → (C0 k ∨ W.heap.size ≤ k) ∧ k < W1.heap.size
  kept : Steps (fun k => ¬ C0 k) W W1
theorem It.refl {C0 : Nat → Prop} {W : World} (h : ∀ k, C0 k → k < W.heap.size) : It C0 W C0 W := ⟨fun k hk => ⟨.inl hk, h k hk⟩, Steps.refl _ _⟩
theorem It.round {C0 C C' : Nat → Prop} {W W1 W' : World} (h : It C0 W C W1) (hr : Round C W1 C' W') : It C0 W C' W' := by
  have s := h.kept.size
  refine ⟨fun k hk => ?_, ⟨hr.1.os.trans h.kept.os, hr.1.tape.trans h.kept.tape, hr.1.output.trans h.kept.output, Nat.le_trans s hr.1.size, fun k hk hn => ?_⟩⟩
  · rcases hr.2 k hk with a | a
    · exact ⟨(h.grow k a).1, Nat.lt_of_lt_of_le (h.grow k a).2 hr.1.size⟩
    · exact ⟨.inr (by omega), a.2⟩
  · refine (hr.1.same k (Nat.lt_of_lt_of_le hk s) (fun e => ?_)).trans (h.kept.same k hk hn)
    rcases (h.grow k e).1 with a | a
    · exact hn a
    · omega
theorem It.own {C0 C : Nat → Prop} {W W1 W2 : World} (h : It C0 W C W1) (hs : Steps (fun k => k < W.heap.size ∨ C k) W1 W2) : It C0 W C W2 :=
  ⟨fun k hk => ⟨(h.grow k hk).1, Nat.lt_of_lt_of_le (h.grow k hk).2 hs.size⟩, ⟨hs.os.trans h.kept.os, hs.tape.trans h.kept.tape, hs.output.trans h.kept.output, Nat.le_trans h.kept.size hs.size, fun k hk hn =>
    (hs.same k (Nat.lt_of_lt_of_le hk h.kept.size) (.inl hk)).trans (h.kept.same k hk hn)⟩⟩

theorem It.block {C0 C : Nat → Prop} {W W1 : World} (h : It C0 W C W1) {b : Nat} {o : Obj} (hb : W.heap[b]? = some o) (hn : ¬ C0 b) : W1.heap[b]? = some o := h.kept.heap hn hb

/-- how the body of a round may be left -/
def rPost {α : Type} (I : List α → (Nat → Prop) → World → Prop) (Ix : Code → List α → (Nat → Prop) → World → Prop) (xs : List α) (C : Nat → Prop) (W : World) : Exit → Act → World → Prop
  | .normal, _, W' => ∃ C', Round C W C' W' ∧ I xs C' W'
  | .ret, _, W' => ∃ C', Round C W C' W' ∧ Ix .ret xs C' W'
  | .exit id, _, W' => ∃ C', Round C W C' W' ∧ Ix (.exit id) xs C' W'
  | .goto t, _, W' => ∃ C', Round C W C' W' ∧ Ix (.goto t) xs C' W'
  | .panic _, _, _ => False
  | .outgrown, _, _ => False

/-- **a range over a function**, in a function's body (not within a round) -/
theorem wpIn_range {P : Program} {n : Nat} {α : Type} {g : Operand} {ps : Array Tmp} {assign body : Code} {Q : Exit → Act → World → Prop} {a : Act} {w : World}
    {gf : Nat} {lb : Array Value} (hg : a.eval g = .func (.func gf) #[] lb) (eg : ∀ args w, (callFunc gf args).run P w = .ok (.enter gf args) w)
    {encs : α → Array Value} {L : List α} {A : Nat → Prop} {w0 : World} (hseq : SeqOf P gf lb encs L A w0) (hb0 : Below w0.heap.size w0 w) (hps : ∀ x, (encs x).size = ps.size)
    (I : List α → (Nat → Prop) → World → Prop) (Ix : Code → List α → (Nat → Prop) → World → Prop) (C0 : Nat → Prop) (hC0 : ∀ k, C0 k → (A k ∨ w0.heap.size ≤ k) ∧ k < w.heap.size)
    (hI : Bears w.heap.size I) (hIx : ∀ c, Bears w.heap.size (Ix c)) (h0 : I [] C0 w) (Ax : α → Act → (Nat → Prop) → World → Prop) (hAx : ∀ x a', Bears w.heap.size (fun (_ : Unit) C W => Ax x a' C W))
    (hassign : ∀ (l : Nat) (pre : List α) (x : α) (C : Nat → Prop) (W : World) (K : Act → World → Prop), I pre C W → pre ++ [x] <+: L → (∀ k, C k → k < W.heap.size) → w.heap.size ≤ W.heap.size →
      (∀ a' C' W', Round C W C' W' → I pre C' W' → Ax x a' C' W' → K a' W') →
      assign.wpIn (Fence.wide.inRound l) (n - 1 - 1) P (Exit.then K (fun _ _ _ => False)) { tmps := (ps.zip (encs x)).foldl (fun t (p, v) => t.setIfInBounds p v) a.tmps, defers := [] } W)
    (hbody : ∀ (l : Nat) (pre : List α) (x : α) (a' : Act) (C : Nat → Prop) (W : World), I pre C W → Ax x a' C W → pre ++ [x] <+: L → (∀ k, C k → k < W.heap.size) → w.heap.size ≤ W.heap.size →
      body.wpIn (Fence.wide.inRound l) (n - 1 - 1) P (rPost I Ix (pre ++ [x]) C W) a' W)
    (hdone : ∀ (D : Nat) (C : Nat → Prop) (W : World), w.heap.size ≤ D → ¬ C D → I L C W → W.heap[D]? = some (.deferred (some [])) → Q .normal { a with defers := { target := .collected D, args := #[] } :: a.defers } W)
    (hstop : ∀ (D : Nat) (c : Code) (pre : List α) (C : Nat → Prop) (W : World), w.heap.size ≤ D → ¬ C D → Ix c pre C W → W.heap[D]? = some (.deferred (some [])) → c.wpIn Fence.wide n P Q { a with defers := { target := .collected D, args := #[] } :: a.defers } W) :
    (Code.rangeFunc g ps assign body).wpIn Fence.wide n P Q a w := by
  refine wpIn_rangeFunc ?_
  intro fn hfn
  obtain ⟨rec, hrec⟩ : ∃ rec : LoopState → Option Code → Loop, rec = fun st pe => { state := st, pending := pe, fn, tmps := a.tmps, params := ps, assign, body, defers := w.heap.size } := ⟨_, rfl⟩
  obtain ⟨W1, hW1⟩ : ∃ W1, (w.alloc (.deferred (some []))).alloc (.loop (rec .ready none)) = W1 := ⟨_, rfl⟩
  have hL1 : W1.heap[w.heap.size + 1]? = some (.loop (rec .ready none)) := by
    rw [← hW1]; have := World.alloc_heap_new (w.alloc (.deferred (some []))) (.loop (rec .ready none)); rwa [World.size_alloc] at this
  have hK1 : W1.heap[w.heap.size]? = some (.deferred (some [])) := by
    rw [← hW1]; exact (Below.heap_alloc _ _ _ (by simp)).trans (World.alloc_heap_new w _)
  have hz : W1.heap.size = w.heap.size + 1 + 1 := by rw [← hW1]; simp
  have bw1 : Below w.heap.size w W1 := by rw [← hW1]; exact ((Below.refl _ w).alloc (Nat.le_refl _) _).alloc (by simp) _
  have hI1 : I [] C0 W1 := hI _ _ _ _ h0 (Nat.le_refl _) (Steps.of_below bw1 _)
  refine ⟨w.heap.size + 1, [{ target := .collected w.heap.size, args := #[] }], W1, { target := .fn (.func gf) lb, args := #[.func (.yield (w.heap.size + 1)) #[] #[]] }, W1, gf,
    #[.func (.yield (w.heap.size + 1)) #[] #[]] ++ lb, W1, ?_, ?_, ?_, ?_, (fun h => by simp [Fence.wide] at h), ?_⟩
  · rw [← hW1, hrec]; exact run_enterLoop_outer _ _ _ _ _
  · simp only [resolve, hg]
    simp [go_sem]
  · intro f' hf'; trivial
  · simp [invoke, go_sem, eg]
  · refine callsIn_wide.2 ?_
    -- the two blocks of book-keeping are the consumer's, beside the user's own
    let Cj : (Nat → Prop) → Nat → Prop := fun C k => C k ∨ k = w.heap.size ∨ k = w.heap.size + 1
    let J : List α → (Nat → Prop) → World → Prop := fun pre C' W => ∃ C, C' = Cj C ∧ I pre C W ∧ (¬ C w.heap.size ∧ ¬ C (w.heap.size + 1) ∧ ∀ k, C k → k < W.heap.size) ∧ W.heap[w.heap.size + 1]? = some (.loop (rec .ready none)) ∧ W.heap[w.heap.size]? = some (.deferred (some []))
    let Jx : List α → (Nat → Prop) → World → Prop := fun pre C' W => ∃ C c, C' = Cj C ∧ Ix c pre C W ∧ (¬ C w.heap.size ∧ ¬ C (w.heap.size + 1) ∧ ∀ k, C k → k < W.heap.size) ∧ W.heap[w.heap.size + 1]? = some (.loop (rec .done (some c))) ∧ W.heap[w.heap.size]? = some (.deferred (some []))
    have hsm : ∀ {C : Nat → Prop} {X Y : World}, Steps (fun k => k < W1.heap.size ∨ Cj C k) X Y → Steps (fun k => k < w.heap.size ∨ C k) X Y := fun h => h.mono (fun k _ hk => by
      rcases hk with hk | hk
      · exact .inl (by omega)
      · exact .inr (.inl hk))
    refine (hseq (w.heap.size + 1) J Jx (Cj C0) W1 (hb0.trans (bw1.mono hb0.size)) ?_ ?_ ?_ ?_ ?_).mono ?_
    · intro k hk
      have h1 := hb0.size
      rcases hk with hk | hk | hk
      · exact ⟨(hC0 k hk).1, by have := (hC0 k hk).2; omega⟩
      · exact ⟨.inr (by omega), by omega⟩
      · exact ⟨.inr (by omega), by omega⟩
    · rintro s C' X Y ⟨C, rfl, hi, ⟨h1, h2, h3⟩, hl, hk⟩ hn hs
      exact ⟨C, rfl, hI _ _ _ _ hi (by omega) (hsm hs), ⟨h1, h2, fun k hk => Nat.lt_of_lt_of_le (h3 k hk) hs.size⟩, hs.heap (.inr (.inr (.inr rfl))) hl, hs.heap (.inr (.inr (.inl rfl))) hk⟩
    · rintro s C' X Y ⟨C, c, rfl, hi, ⟨h1, h2, h3⟩, hl, hk⟩ hn hs
      exact ⟨C, c, rfl, hIx c _ _ _ _ hi (by omega) (hsm hs), ⟨h1, h2, fun k hk => Nat.lt_of_lt_of_le (h3 k hk) hs.size⟩, hs.heap (.inr (.inr (.inr rfl))) hl, hs.heap (.inr (.inr (.inl rfl))) hk⟩
    · -- one round
      rintro pre x C' W ⟨C, rfl, hi, ⟨h1, h2, h3⟩, hl, hk⟩ hWs hpre
      have hlt : w.heap.size + 1 < W.heap.size := (Array.getElem?_eq_some_iff.1 hl).1
      have hy := run_yield (P := P) (args := encs x) hl (by rw [hrec]; exact hps x)
      rw [hrec] at hy
      refine Yd.of (m := n - 1 - 1) ⟨fn, _, assign, body, hy, roundIn_of_wpIn hfn (hassign _ pre x C W _ hi hpre h3 (by omega) ?_)⟩
      clear hy
      intro a' Ca Wa hra hia hax
      have h1a : ¬ Ca w.heap.size := fun e => by rcases hra.2 _ e with e | e; exact h1 e; omega
      have h2a : ¬ Ca (w.heap.size + 1) := fun e => by rcases hra.2 _ e with e | e; exact h2 e; omega
      have h3a : ∀ k, Ca k → k < Wa.heap.size := fun k hk => by rcases hra.2 k hk with e | e; exact Nat.lt_of_lt_of_le (h3 k e) hra.1.size; exact e.2
      have hla := hra.1.heap h2 hl
      have hka := hra.1.heap h1 hk
      have hlta : w.heap.size + 1 < Wa.heap.size := (Array.getElem?_eq_some_iff.1 hla).1
      refine ⟨_, run_beginRound hla (by rw [hrec]), ?_⟩
      obtain ⟨Wb, hWb⟩ : ∃ Wb, Wb = Wa.putObj (w.heap.size + 1) (.loop { rec .ready none with state := .busy }) := ⟨_, rfl⟩
      rw [← hWb]
      have hlb : Wb.heap[w.heap.size + 1]? = some (.loop { rec .ready none with state := .busy }) := by rw [hWb]; exact World.putObj_heap_same hlta
      have hkb : Wb.heap[w.heap.size]? = some (.deferred (some [])) := by rw [hWb]; exact (World.putObj_heap_other (by omega)).trans hka
      have sb : Steps (fun k => k < w.heap.size ∨ Ca k) Wa Wb := by rw [hWb]; exact Steps.putObj _ _ _ _ (by rintro (e | e); omega; exact h2a e)
      have rb : Round (Cj Ca) Wa (Cj Ca) Wb := ⟨by rw [hWb]; exact Steps.putObj _ _ _ _ (fun e => e (.inr (.inr rfl))), fun k hk => .inl hk⟩
      have hib := hI _ _ _ _ hia (by omega) sb
      have haxb := hAx x a' () _ _ _ hax (by omega) sb
      have hzb : Wb.heap.size = Wa.heap.size := by rw [hWb]; simp
      have ra : Round (Cj C) W (Cj Ca) Wa := ⟨hra.1.mono (fun k _ hk e => hk (.inl e)), fun k hk => by
        rcases hk with hk | hk
        · rcases hra.2 k hk with e | e; exact .inl (.inl e); exact .inr e
        · exact .inl (.inr hk)⟩
      have rab := ra.trans rb
      refine wpIn_mono (hbody _ pre x a' Ca Wb hib haxb hpre (fun k hk => by rw [hzb]; exact h3a k hk) (by omega)) ?_
      have fin : ∀ (jump : Option Code) (C3 : Nat → Prop) (W3 : World), Round Ca Wb C3 W3 →
          (Instr.endRound (w.heap.size + 1) jump).run P W3 = .ok (.bool jump.isNone) (W3.putObj (w.heap.size + 1) (.loop (rec (if jump.isNone then .ready else .done) jump))) ∧
          (W3.putObj (w.heap.size + 1) (.loop (rec (if jump.isNone then .ready else .done) jump))).heap[w.heap.size + 1]? = some (.loop (rec (if jump.isNone then .ready else .done) jump)) ∧
          (W3.putObj (w.heap.size + 1) (.loop (rec (if jump.isNone then .ready else .done) jump))).heap[w.heap.size]? = some (.deferred (some [])) ∧
          Steps (fun k => k < w.heap.size ∨ C3 k) W3 (W3.putObj (w.heap.size + 1) (.loop (rec (if jump.isNone then .ready else .done) jump))) ∧
          Round (Cj C) W (Cj C3) (W3.putObj (w.heap.size + 1) (.loop (rec (if jump.isNone then .ready else .done) jump))) ∧
          (¬ C3 w.heap.size ∧ ¬ C3 (w.heap.size + 1) ∧ ∀ k, C3 k → k < W3.heap.size) ∧ w.heap.size ≤ W3.heap.size := fun jump C3 W3 hr3 => by
        have h13 : ¬ C3 w.heap.size := fun e => by rcases hr3.2 _ e with e | e; exact h1a e; omega
        have h23 : ¬ C3 (w.heap.size + 1) := fun e => by rcases hr3.2 _ e with e | e; exact h2a e; omega
        have hl3 := hr3.1.heap h2a hlb
        have hk3 := hr3.1.heap h1a hkb
        have := run_endRound (P := P) jump hl3
        have hlt3 := (Array.getElem?_eq_some_iff.1 hl3).1
        rw [hrec] at this ⊢
        refine ⟨this, World.putObj_heap_same hlt3, (World.putObj_heap_other (by omega)).trans hk3, Steps.putObj _ _ _ _ (by rintro (e | e); omega; exact h23 e), ?_, ⟨h13, h23, fun k hk => by rcases hr3.2 k hk with e | e; exact Nat.lt_of_lt_of_le (by rw [hzb]; exact h3a k e) hr3.1.size; exact e.2⟩, by omega⟩
        refine (rab.trans (C'' := Cj C3) (D := W3) ⟨hr3.1.mono (fun k _ hk e => hk (.inl e)), fun k hk => ?_⟩).trans ⟨Steps.putObj _ _ _ _ (fun e => e (.inr (.inr rfl))), fun k hk => .inl hk⟩
        rcases hk with hk | hk
        · rcases hr3.2 k hk with e | e; exact .inl (.inl e); exact .inr e
        · exact .inl (.inr hk)
      rintro e a3 W3 hp
      cases e with
      | normal =>
        obtain ⟨C3, hr3, hi3⟩ := hp
        obtain ⟨hr, hl4, hk4, s4, r4, ⟨b1, b2, b3⟩, b4⟩ := fin none C3 W3 hr3
        exact ⟨_, _, hr, Cj C3, r4, .inl ⟨rfl, C3, rfl, hI _ _ _ _ hi3 b4 s4, ⟨b1, b2, fun k hk => by simpa using b3 k hk⟩, hl4, hk4⟩⟩
      | ret =>
        obtain ⟨C3, hr3, hi3⟩ := hp
        obtain ⟨hr, hl4, hk4, s4, r4, ⟨b1, b2, b3⟩, b4⟩ := fin (some .ret) C3 W3 hr3
        exact ⟨_, _, hr, Cj C3, r4, .inr ⟨rfl, C3, .ret, rfl, hIx _ _ _ _ _ hi3 b4 s4, ⟨b1, b2, fun k hk => by simpa using b3 k hk⟩, hl4, hk4⟩⟩
      | exit id =>
        obtain ⟨C3, hr3, hi3⟩ := hp
        obtain ⟨hr, hl4, hk4, s4, r4, ⟨b1, b2, b3⟩, b4⟩ := fin (some (.exit id)) C3 W3 hr3
        exact ⟨_, _, hr, Cj C3, r4, .inr ⟨rfl, C3, .exit id, rfl, hIx _ _ _ _ _ hi3 b4 s4, ⟨b1, b2, fun k hk => by simpa using b3 k hk⟩, hl4, hk4⟩⟩
      | goto t =>
        obtain ⟨C3, hr3, hi3⟩ := hp
        obtain ⟨hr, hl4, hk4, s4, r4, ⟨b1, b2, b3⟩, b4⟩ := fin (some (.goto t)) C3 W3 hr3
        exact ⟨_, _, hr, Cj C3, r4, .inr ⟨rfl, C3, .goto t, rfl, hIx _ _ _ _ _ hi3 b4 s4, ⟨b1, b2, fun k hk => by simpa using b3 k hk⟩, hl4, hk4⟩⟩
      | panic ch => exact hp.elim
      | outgrown => exact hp.elim
    · exact ⟨C0, rfl, hI1, ⟨fun e => by have := (hC0 _ e).2; omega, fun e => by have := (hC0 _ e).2; omega, fun k hk => by have := (hC0 _ hk).2; omega⟩, hL1, hK1⟩
    · -- behind the iterator
      rintro e W2 ⟨⟨v, rfl⟩, _, (⟨C, rfl, hi, ⟨h1, h2, h3⟩, hl, hk⟩ | ⟨pre, C, c, rfl, hi, ⟨h1, h2, h3⟩, hl, hk⟩)⟩
      · have hlt := (Array.getElem?_eq_some_iff.1 hl).1
        have sp : ∀ o, Steps (fun k => k < w.heap.size ∨ C k) W2 (W2.putObj (w.heap.size + 1) o) := fun o => Steps.putObj _ _ _ _ (by rintro (e | e); omega; exact h2 e)
        exact ⟨none, _, by have := run_endLoop (P := P) hl (by rw [hrec]; simp); rw [hrec] at this; exact this, hdone _ C _ (Nat.le_refl _) h1 (hI _ _ _ _ hi (by omega) (sp _)) ((World.putObj_heap_other (by omega)).trans hk)⟩
      · have hlt := (Array.getElem?_eq_some_iff.1 hl).1
        have sp : ∀ o, Steps (fun k => k < w.heap.size ∨ C k) W2 (W2.putObj (w.heap.size + 1) o) := fun o => Steps.putObj _ _ _ _ (by rintro (e | e); omega; exact h2 e)
        exact ⟨some c, _, by have := run_endLoop (P := P) hl (by rw [hrec]; simp); rw [hrec] at this; exact this, hstop _ c pre C _ (Nat.le_refl _) h1 (hIx _ _ _ _ _ hi (by omega) (sp _)) ((World.putObj_heap_other (by omega)).trans hk)⟩

/-- the same, where the assignment to the loop's variables makes no memory -/
theorem wpIn_range' {P : Program} {n : Nat} {α : Type} {g : Operand} {ps : Array Tmp} {assign body : Code} {Q : Exit → Act → World → Prop} {a : Act} {w : World}
    {gf : Nat} {lb : Array Value} (hg : a.eval g = .func (.func gf) #[] lb) (eg : ∀ args w, (callFunc gf args).run P w = .ok (.enter gf args) w)
    {encs : α → Array Value} {L : List α} {A : Nat → Prop} {w0 : World} (hseq : SeqOf P gf lb encs L A w0) (hb0 : Below w0.heap.size w0 w) (hps : ∀ x, (encs x).size = ps.size)
    (I : List α → (Nat → Prop) → World → Prop) (Ix : Code → List α → (Nat → Prop) → World → Prop) (C0 : Nat → Prop) (hC0 : ∀ k, C0 k → (A k ∨ w0.heap.size ≤ k) ∧ k < w.heap.size)
    (hI : Bears w.heap.size I) (hIx : ∀ c, Bears w.heap.size (Ix c)) (h0 : I [] C0 w) (a₁ : α → Act)
    (hassign : ∀ (l : Nat) (x : α) (W : World) (K : Act → World → Prop), K (a₁ x) W →
      assign.wpIn (Fence.wide.inRound l) (n - 1 - 1) P (Exit.then K (fun _ _ _ => False)) { tmps := (ps.zip (encs x)).foldl (fun t (p, v) => t.setIfInBounds p v) a.tmps, defers := [] } W)
    (hbody : ∀ (l : Nat) (pre : List α) (x : α) (C : Nat → Prop) (W : World), I pre C W → pre ++ [x] <+: L → (∀ k, C k → k < W.heap.size) → w.heap.size ≤ W.heap.size →
      body.wpIn (Fence.wide.inRound l) (n - 1 - 1) P (rPost I Ix (pre ++ [x]) C W) (a₁ x) W)
    (hdone : ∀ (D : Nat) (C : Nat → Prop) (W : World), w.heap.size ≤ D → ¬ C D → I L C W → W.heap[D]? = some (.deferred (some [])) → Q .normal { a with defers := { target := .collected D, args := #[] } :: a.defers } W)
    (hstop : ∀ (D : Nat) (c : Code) (pre : List α) (C : Nat → Prop) (W : World), w.heap.size ≤ D → ¬ C D → Ix c pre C W → W.heap[D]? = some (.deferred (some [])) → c.wpIn Fence.wide n P Q { a with defers := { target := .collected D, args := #[] } :: a.defers } W) :
    (Code.rangeFunc g ps assign body).wpIn Fence.wide n P Q a w :=
  wpIn_range hg eg hseq hb0 hps I Ix C0 hC0 hI hIx h0 (fun x a' _ _ => a' = a₁ x) (fun _ _ _ _ _ _ h _ _ => h)
    (fun l pre x C W K hi _ _ _ hK => hassign l x W K (hK _ C W (Round.refl C W) hi rfl))
    (fun l pre x a' C W hi ha hp hc hz => by subst ha; exact hbody l pre x C W hi hp hc hz) hdone hstop
/-- the same, the frame of a round told by what is laid into the frame at hand -/
theorem wpIn_rangeF {P : Program} {n : Nat} {α : Type} {g : Operand} {ps : Array Tmp} {assign body : Code} {Q : Exit → Act → World → Prop} {a : Act} {w : World} (f : α → Array Value → Array Value)
    {gf : Nat} {lb : Array Value} (hg : a.eval g = .func (.func gf) #[] lb) (eg : ∀ args w, (callFunc gf args).run P w = .ok (.enter gf args) w)
    {encs : α → Array Value} {L : List α} {A : Nat → Prop} {w0 : World} (hseq : SeqOf P gf lb encs L A w0) (hb0 : Below w0.heap.size w0 w) (hps : ∀ x, (encs x).size = ps.size)
    (I : List α → (Nat → Prop) → World → Prop) (Ix : Code → List α → (Nat → Prop) → World → Prop) (C0 : Nat → Prop) (hC0 : ∀ k, C0 k → (A k ∨ w0.heap.size ≤ k) ∧ k < w.heap.size)
    (hI : Bears w.heap.size I) (hIx : ∀ c, Bears w.heap.size (Ix c)) (h0 : I [] C0 w)
    (hassign : ∀ (l : Nat) (x : α) (W : World) (K : Act → World → Prop), K { tmps := f x a.tmps, defers := [] } W →
      assign.wpIn (Fence.wide.inRound l) (n - 1 - 1) P (Exit.then K (fun _ _ _ => False)) { tmps := (ps.zip (encs x)).foldl (fun t (p, v) => t.setIfInBounds p v) a.tmps, defers := [] } W)
    (hbody : ∀ (l : Nat) (pre : List α) (x : α) (C : Nat → Prop) (W : World), I pre C W → pre ++ [x] <+: L → (∀ k, C k → k < W.heap.size) → w.heap.size ≤ W.heap.size →
      body.wpIn (Fence.wide.inRound l) (n - 1 - 1) P (rPost I Ix (pre ++ [x]) C W) { tmps := f x a.tmps, defers := [] } W)
    (hdone : ∀ (D : Nat) (C : Nat → Prop) (W : World), w.heap.size ≤ D → ¬ C D → I L C W → W.heap[D]? = some (.deferred (some [])) → Q .normal { a with defers := { target := .collected D, args := #[] } :: a.defers } W)
    (hstop : ∀ (D : Nat) (c : Code) (pre : List α) (C : Nat → Prop) (W : World), w.heap.size ≤ D → ¬ C D → Ix c pre C W → W.heap[D]? = some (.deferred (some [])) → c.wpIn Fence.wide n P Q { a with defers := { target := .collected D, args := #[] } :: a.defers } W) :
    (Code.rangeFunc g ps assign body).wpIn Fence.wide n P Q a w :=
  wpIn_range' hg eg hseq hb0 hps I Ix C0 hC0 hI hIx h0 (fun x => { tmps := f x a.tmps, defers := [] }) hassign hbody hdone hstop
#print axioms wpIn_rangeF
end Go.Proofs.Ytekddgmmfgpehaa.rng
/-!   A drawn region in a round that holds no yield: walked outside of fences, by the kit's laws that take loads first. Imports nothing of the program.
-/
namespace Go.Proofs.Ytekddgmmfgpehaa.rng
open Go.RowKit mem
set_option linter.unusedVariables false

theorem wpOpIn_of_plain {n : Nat} {P : Program} {ops : Array Oper} {Q : Exit → Act → World → Prop} {i : Nat} {K : Act → World → Prop} {a : Act} {w : World} (hL : ¬ LetsOut Q)
    (h : wpOp P ops Q i K a w) : wpOpIn Fence.wide n P ops Q i K a w := by
  unfold wpOp at h
  unfold wpOpIn
  cases ho : ops[i]? with
  | none => rw [ho] at h; exact h
  | some o =>
    rw [ho] at h
    simp only at h ⊢
    split
    · rename_i hw
      rw [if_pos hw] at h
      rcases h with h | ⟨_, h⟩
      · refine ⟨fun _ _ => trivial, ?_⟩
        rw [show Fence.wide.round = none from rfl, Oper.semAt_none]
        unfold Oper.wp at h
        generalize (execOp a.eval o).run P w = r at *
        cases r with
        | ok x w' =>
          cases x <;> simp only [Oper.upon, Oper.uponIn] at h ⊢
          case value => exact h
          case skip => exact h
          case defer => exact h
          case enter f args => exact ⟨fun h => by simp [Fence.wide] at h, callsIn_wide.2 (Calls.mono h (fun e w'' he => by cases e <;> exact he))⟩
          case row row args => exact ⟨fun h => by simp [Fence.wide] at h, fun c cs _ => by
            obtain ⟨v, w', r, s⟩ := h c cs
            exact ⟨v, w', r, stepsIn_wide.2 s⟩⟩
        | halt x w' =>
          cases x <;> simp only [Oper.upon, Oper.uponIn] at h ⊢
          all_goals first | exact h | exact h.elim
      · exact absurd h hL
    · rename_i hw
      rw [if_neg hw] at h
      exact ⟨fun _ _ => trivial, h⟩
theorem wpAnyIn_of_plain {n : Nat} {P : Program} {ops : Array Oper} {Q : Exit → Act → World → Prop} {md : Region.Mode} (hL : ¬ LetsOut Q) :
    ∀ {fuel : Nat} {listed : Array Bool} {a : Act} {w : World}, wpAny P md ops Q fuel listed a w → wpAnyIn Fence.wide n P md ops Q fuel listed a w := by
  intro fuel
  induction fuel with
  | zero => intro listed a w h; exact h
  | succ fuel ih => intro listed a w h; exact ⟨h.1, fun i hi => wpOpIn_of_plain hL (wpOp_mono (fun a' w' h' => ih h') (h.2 i hi))⟩
/-- **a drawn region in a round, no yield in it**: the kit's 'wpAnyH' is what is walked: loads are taken first (wpAnyH_take), calls by AllReadyH.cons -/
theorem wpIn_region_held {P : Program} {n l id : Nat} {ops : Array Oper} {Q : Exit → Act → World → Prop} {a : Act} {w : World} (S : World → Prop) (hm : P.follows .mixedOrders = true) (hd : noDefer ops = true) (hL : ¬ LetsOut Q)
    (h : wpAnyH P .any ops Q S ops.size (Array.replicate ops.size false) a w.drew) : (Code.region id ops true).wpIn (Fence.wide.inRound l) n P Q a w :=
  wpIn_region_round hm hd (wpAnyIn_of_plain hL (wpAny_of_held _ _ _ _ h))
/-- the same in a function's body -/
theorem wpIn_region_held' {P : Program} {n id : Nat} {ops : Array Oper} {Q : Exit → Act → World → Prop} {a : Act} {w : World} (S : World → Prop) (hm : P.follows .mixedOrders = true) (hL : ¬ LetsOut Q)
    (h : wpAnyH P .any ops Q S ops.size (Array.replicate ops.size false) a w.drew) : (Code.region id ops true).wpIn Fence.wide n P Q a w :=
  wpIn_region_any hm (wpAnyIn_of_plain hL (wpAny_of_held _ _ _ _ h))
#print axioms wpIn_region_held
end Go.Proofs.Ytekddgmmfgpehaa.rng
/-!   Spans as pairs of numbers: the reference's other calls; hulls; the laws. Imports nothing of the program.
-/
namespace Go.Proofs.Ytekddgmmfgpehaa.sp
set_option linter.unusedVariables false

theorem len_fit {s : Int × Int} (h : Ok s) : lenI s = s.2 - s.1 := by
  unfold lenI
  rw [show fitP s.1 s.2 = s from fit_self (f := s.1) (t := s.2) h]
theorem len_ofP (s : Int × Int) : lenI (ofP s) = lenI s := by
  rw [len_fit (of_ok s), len_of]
theorem of_lt (s : Int × Int) : ofP s = (0, 0) ∨ (ofP s = s ∧ Ok s ∧ s.1 < s.2) := by
  rcases of_cases s with ⟨h, h1, h2, _⟩ | ⟨h, _⟩
  · exact .inr ⟨h, h1, h2⟩
  · exact .inl h
theorem meet_of (s t : Int × Int) : meetP s t = betw (max (ofP s).1 (ofP t).1) (min (ofP s).2 (ofP t).2) := by
  rw [← rmeet_eq]
  unfold rmeetP
  have hs := of_ok s
  have ht := of_ok t
  unfold Ok at hs ht
  rw [of_betw (by split <;> omega) (by split <;> omega)]
  congr 1
  · split <;> omega
  · split <;> omega
theorem holds_eq (s t : Int × Int) : decide (meetP s t = ofP t) = holdsB s t := by
  unfold holdsB
  by_cases h : lenI t = 0
  · rw [decide_eq_true h, Bool.true_or, decide_eq_true]
    rcases of_cases t with ⟨h1, h2, h3, _⟩ | ⟨h1, _⟩
    · rw [len_fit h2] at h; omega
    · rw [meet_of, h1]
      have hs := of_ok s
      unfold Ok at hs
      unfold betw
      rw [if_pos (by simp; omega)]
  · rw [decide_eq_false h, Bool.false_or]
    rcases of_cases t with ⟨h1, h2, h3, _⟩ | ⟨h1, h2, _⟩
    · rw [h1]
    · exact absurd h2 h
theorem touch_no (s t : Int × Int) (h : lenI s = 0 ∨ lenI t = 0) : touchB s t = false := by
  unfold touchB
  rcases h with h | h <;> simp [h]
theorem touch_eq (s t : Int × Int) (hs : lenI s ≠ 0) (ht : lenI t ≠ 0) :
    (decide (lenI (meetP (ofP s) (ofP t)) > 0) || decide ((ofP s).2 = (ofP t).1) || decide ((ofP t).2 = (ofP s).1)) = touchB s t := by
  have h1 : ofP s = s ∧ Ok s ∧ s.1 < s.2 := by
    rcases of_cases s with ⟨h1, h2, h3, _⟩ | ⟨_, h2, _⟩
    · exact ⟨h1, h2, h3⟩
    · exact absurd h2 hs
  have h2 : ofP t = t ∧ Ok t ∧ t.1 < t.2 := by
    rcases of_cases t with ⟨h1, h2, h3, _⟩ | ⟨_, h2, _⟩
    · exact ⟨h1, h2, h3⟩
    · exact absurd h2 ht
  rw [h1.1, h2.1, len_fit (meet_ok _ _), meet_of, h1.1, h2.1]
  unfold touchB betw
  obtain ⟨_, o1, l1⟩ := h1
  obtain ⟨_, o2, l2⟩ := h2
  unfold Ok at o1 o2
  rw [Bool.eq_iff_iff]
  split <;> simp [hs, ht] <;> omega
theorem below_no (s : Int × Int) (o : Int) (h : o < 0) : belowP s o = (0, 0) := by
  have := fit_ok s.1 s.2
  unfold Ok at this
  unfold belowP betw
  rw [if_pos (by omega)]
theorem below_eq (s : Int × Int) (o : Int) (h : 0 ≤ o) : meetP s (0, min o 4611686018427387904) = belowP s o := by
  have := fit_ok s.1 s.2
  unfold meetP belowP
  rw [fit_self (f := 0) (t := min o 4611686018427387904) ⟨by simp, by simp; omega, by simp; omega⟩]
  unfold Ok at this
  congr 1 <;> simp <;> omega
theorem from_no (s : Int × Int) (o : Int) (h : 4611686018427387904 < o) : fromP s o = (0, 0) := by
  have := fit_ok s.1 s.2
  unfold Ok at this
  unfold fromP betw
  rw [if_pos (by omega)]
theorem from_eq (s : Int × Int) (o : Int) (h : o ≤ 4611686018427387904) : meetP s (max o 0, 4611686018427387904) = fromP s o := by
  have := fit_ok s.1 s.2
  unfold meetP fromP
  rw [fit_self (f := max o 0) (t := 4611686018427387904) ⟨by simp; omega, by simp; omega, by simp⟩]
  unfold Ok at this
  congr 1 <;> simp <;> omega

/-- a hull so far -/
def Inv (h : Int × Int) : Prop := h = (0, 0) ∨ (Ok h ∧ h.1 < h.2)
theorem wider_inv {h : Int × Int} (s : Int × Int) (hi : Inv h) : Inv (widerP h s) := by
  unfold widerP
  by_cases h0 : lenI s = 0
  · rw [if_pos h0]; exact hi
  · rw [if_neg h0]
    have hs : Ok s ∧ s.1 < s.2 := by
      rcases of_cases s with ⟨_, h2, h3, _⟩ | ⟨_, h2, _⟩
      · exact ⟨h2, h3⟩
      · exact absurd h2 h0
    split
    · exact .inr hs
    · rename_i hne
      rcases hi with rfl | ⟨h1, h2⟩
      · exact absurd rfl hne
      · obtain ⟨k1, k2⟩ := hs
        unfold Ok at h1 k1
        exact .inr ⟨⟨by simp; omega, by simp; omega, by simp; omega⟩, by simp; omega⟩
theorem hull_inv (l : List (Int × Int)) (h : Int × Int) (hi : Inv h) : Inv (l.foldl widerP h) := by
  induction l generalizing h with
  | nil => exact hi
  | cons a l ih => exact ih _ (wider_inv a hi)
theorem hullP_inv (l : List (Int × Int)) : Inv (hullP l) := hull_inv l _ (.inl rfl)
theorem hullP_snoc (l : List (Int × Int)) (s : Int × Int) : hullP (l ++ [s]) = widerP (hullP l) s := by
  unfold hullP
  rw [List.foldl_append]
  rfl
/-- the reference's step, of a span that is not empty -/
theorem wider_none (h s : Int × Int) (h0 : lenI s = 0) : widerP h s = h := by unfold widerP; rw [if_pos h0]
theorem wider_first (s : Int × Int) (h0 : lenI s ≠ 0) : widerP (0, 0) s = s := by unfold widerP; rw [if_neg h0, if_pos rfl]
theorem inv_len {h : Int × Int} (hi : Inv h) : (lenI h = 0 ↔ h = (0, 0)) := by
  rcases hi with rfl | ⟨h1, h2⟩
  · exact ⟨fun _ => rfl, fun _ => rfl⟩
  · rw [len_fit h1]
    constructor
    · intro h; omega
    · intro h; rw [h] at h2; simp at h2
theorem wider_more {h s : Int × Int} (h0 : lenI s ≠ 0) (h1 : h ≠ (0, 0)) : widerP h s = (min h.1 s.1, max h.2 s.2) := by unfold widerP; rw [if_neg h0, if_neg h1]
theorem of_self {s : Int × Int} (h0 : lenI s ≠ 0) : ofP s = s ∧ Ok s ∧ s.1 < s.2 := by
  rcases of_cases s with ⟨h1, h2, h3, _⟩ | ⟨_, h2, _⟩
  · exact ⟨h1, h2, h3⟩
  · exact absurd h2 h0

/-! ### The laws -/
theorem hull_two (s t : Int × Int) : hullP [s, t] = widerP (widerP (0, 0) s) t := rfl
theorem parts_len (s : Int × Int) (o : Int) : lenI (belowP s o) + lenI (fromP s o) = lenI s := by
  have hs := fit_ok s.1 s.2
  have h1 : Ok (belowP s o) := by unfold Ok at hs; exact betw_ok (by omega) (by omega)
  have h2 : Ok (fromP s o) := by unfold Ok at hs; exact betw_ok (by omega) (by omega)
  rw [len_fit h1, len_fit h2]
  unfold lenI belowP fromP betw
  unfold Ok at hs
  split <;> split <;> simp <;> omega
theorem parts_meet (s : Int × Int) (o : Int) : lenI (meetP (belowP s o) (fromP s o)) = 0 := by
  have hs := fit_ok s.1 s.2
  have h1 : Ok (belowP s o) := by unfold Ok at hs; exact betw_ok (by omega) (by omega)
  have h2 : Ok (fromP s o) := by unfold Ok at hs; exact betw_ok (by omega) (by omega)
  rw [len_fit (meet_ok _ _)]
  unfold meetP
  rw [show fitP (belowP s o).1 (belowP s o).2 = belowP s o from fit_self h1, show fitP (fromP s o).1 (fromP s o).2 = fromP s o from fit_self h2]
  unfold Ok at hs
  unfold belowP fromP betw
  (repeat' split) <;> simp at * <;> omega
theorem parts_cases (s : Int × Int) (o : Int) (hf : fitP s.1 s.2 = s) (h : s.1 < s.2) :
    (belowP s o = (0, 0) ∧ fromP s o = s) ∨ (s.1 < o ∧ o < s.2 ∧ belowP s o = (s.1, o) ∧ fromP s o = (o, s.2)) ∨ (belowP s o = s ∧ fromP s o = (0, 0)) := by
  unfold belowP fromP betw
  rw [hf]
  by_cases h1 : o ≤ s.1
  · left
    rw [if_pos (by omega), if_neg (by omega)]
    exact ⟨rfl, by ext <;> simp; omega⟩
  · by_cases h2 : o < s.2
    · right; left
      rw [if_neg (by omega), if_neg (by omega)]
      exact ⟨by omega, h2, by ext <;> simp; omega, by ext <;> simp; omega⟩
    · right; right
      rw [if_neg (by omega), if_pos (by omega)]
      exact ⟨by ext <;> simp; omega, rfl⟩
theorem parts_zero (s : Int × Int) (o : Int) (hf : (fitP s.1 s.2).1 = (fitP s.1 s.2).2) : belowP s o = (0, 0) ∧ fromP s o = (0, 0) := by
  unfold belowP fromP betw
  rw [if_pos (by omega), if_pos (by omega)]
  exact ⟨rfl, rfl⟩
theorem parts_hull (s : Int × Int) (o : Int) : hullP [belowP s o, fromP s o] = ofP s := by
  rw [hull_two]
  rcases of_cases s with ⟨h, h3, h4, hf⟩ | ⟨h, _, he⟩
  · rw [h]
    have hl : lenI s ≠ 0 := by rw [len_fit h3]; omega
    unfold Ok at h3
    rcases parts_cases s o hf h4 with ⟨e1, e2⟩ | ⟨l1, l2, e1, e2⟩ | ⟨e1, e2⟩
    · rw [e1, e2, show widerP (0, 0) (0, 0) = (0, 0) from rfl, wider_first _ hl]
    · have k1 : lenI (s.1, o) ≠ 0 := by rw [len_fit ⟨by simp; omega, by simp; omega, by simp; omega⟩]; simp; omega
      have k2 : lenI (o, s.2) ≠ 0 := by rw [len_fit ⟨by simp; omega, by simp; omega, by simp; omega⟩]; simp; omega
      rw [e1, e2, wider_first _ k1, wider_more k2 (by intro h; injection h with h1 h2; omega)]
      ext <;> simp <;> omega
    · rw [e1, e2, wider_first _ hl, wider_none _ _ rfl]
  · obtain ⟨e1, e2⟩ := parts_zero s o he
    rw [e1, e2, h]
    rfl
theorem parts_has (s : Int × Int) (o : Int) : hasB (belowP s o) o = false := by
  have hs := fit_ok s.1 s.2
  have h1 : Ok (belowP s o) := by unfold Ok at hs; exact betw_ok (by omega) (by omega)
  unfold hasB
  rw [show fitP (belowP s o).1 (belowP s o).2 = belowP s o from fit_self h1]
  unfold Ok at hs
  unfold belowP betw
  rw [Bool.eq_false_iff]
  intro h
  split at h <;> simp at h <;> omega
theorem parts_from (s : Int × Int) (o : Int) (h : lenI (fromP s o) ≠ 0) : o ≤ (fromP s o).1 := by
  unfold fromP betw at *
  by_cases h1 : (fitP s.1 s.2).2 ≤ max (fitP s.1 s.2).1 o
  · rw [if_pos h1] at h
    exact absurd rfl h
  · rw [if_neg h1]
    simp
    omega
theorem touch_meet (s t : Int × Int) (h : touchB s t = false) : lenI (meetP s t) = 0 := by
  rw [len_fit (meet_ok _ _), meet_of]
  unfold touchB at h
  rcases of_cases s with ⟨e1, o1, l1, f1⟩ | ⟨e1, _, _⟩
  · rcases of_cases t with ⟨e2, o2, l2, f2⟩ | ⟨e2, _, _⟩
    · rw [len_fit o1, len_fit o2] at h
      rw [e1, e2]
      unfold Ok at o1 o2
      unfold betw
      simp at h
      split <;> simp <;> omega
    · rw [e2]
      have := of_ok s
      unfold Ok at this
      unfold betw
      split <;> simp at * <;> omega
  · rw [e1]
    have := of_ok t
    unfold Ok at this
    unfold betw
    split <;> simp at * <;> omega
theorem touch_hull (s t : Int × Int) (h : touchB s t = true) : lenI (hullP [s, t]) + lenI (meetP s t) = lenI s + lenI t := by
  have h' := h
  unfold touchB at h'
  simp at h'
  obtain ⟨⟨⟨h1, h2⟩, h3⟩, h4⟩ := h'
  obtain ⟨e1, o1, l1⟩ := of_self h1
  obtain ⟨e2, o2, l2⟩ := of_self h2
  have hi := hullP_inv [s, t]
  rw [hull_two, wider_first _ h1] at *
  have hne : s ≠ (0, 0) := by intro h; rw [h] at l1; simp at l1
  rw [wider_more h2 hne] at *
  have ho : Ok (min s.1 t.1, max s.2 t.2) := by
    unfold Ok at o1 o2 ⊢
    exact ⟨by simp; omega, by simp; omega, by simp; omega⟩
  rw [len_fit ho, len_fit (meet_ok _ _), len_fit o1, len_fit o2, meet_of, e1, e2]
  unfold Ok at o1 o2
  unfold betw
  split <;> simp <;> omega
theorem touch_comm (s t : Int × Int) : touchB t s = touchB s t := by
  unfold touchB
  rw [Bool.eq_iff_iff]
  simp
  constructor <;> (rintro ⟨⟨⟨h1, h2⟩, h3⟩, h4⟩; exact ⟨⟨⟨h2, h1⟩, h4⟩, h3⟩)
end Go.Proofs.Ytekddgmmfgpehaa.sp
/-!   Spans, as the reference has them: Holds, Touch, Below, From; wider.
-/
namespace Go.Proofs.Ytekddgmmfgpehaa.sp
open Go.RowKit aid mem
attribute [local go_sem ↓] Go.wp_at_zero Go.wp_at_succ
set_option linter.unusedVariables false

set_option maxRecDepth 100000 in
set_option maxHeartbeats 800000 in
theorem rfrom_any (s : Int × Int) (o : Int) (w : World) : Calls Try.prog 69 #[spV s, .int .i64 o] w (RetS (fromP s o) w) := by
  have M0 := m2_zero w s
  by_cases h : 4611686018427387904 < o
  · have H : Hid (fromP s o = (0, 0)) := Lib.hid (from_no s o h)
    go_enter Try.func69, Try.ntmps69
    go_wp2
    exact bodyPost_ret (v := spV (0, 0)) (by simp [results, Try.results69, go_sem]) rfl ⟨by rw [H.out], (bal _).alloc (bal _).size _⟩
  · have H : Hid (meetP s (max o 0, 4611686018427387904) = fromP s o) := Lib.hid (from_eq s o (by omega))
    generalize fromP s o = r at *
    go_enter Try.func69, Try.ntmps69
    go_wp2_with fail
    all_goals
      generalize (w.alloc (.cells #[.int .i64 s.1, .int .i64 s.2] 36)).alloc (.cells #[.int .i64 0, .int .i64 0] 36) = W at *
      generalize w.heap.size = B at *
      refine (rmeet_any s (_, 4611686018427387904) _).mono ?_
      rintro e w2 ⟨rfl, h2⟩
      have M2 := M0.later h2
      rw [show meetP s _ = r from by rw [← H.out]; congr 2; omega]
      have M3 := M2.put1 r.1 r.2
      have c0 := M2.b1.c0; have c1 := M2.b1.c1; have f0 := M2.b1.f0; have f1 := M2.b1.f1
      clear h2 M0 M2
      go_wp2_with fail
      have e0 := M3.b1.c0; have e1 := M3.b1.c1
      exact bodyPost_ret (v := spV r) (by simp [results, Try.results69, go_sem, e0, e1]) rfl ⟨rfl, M3.below⟩

set_option maxRecDepth 100000 in
set_option maxHeartbeats 1600000 in
theorem wider_any (u s : Int × Int) (w : World) : Calls Try.prog 85 #[spV u, spV s] w (RetS (widerP u s) w) := by
  obtain ⟨s1, s2, s3, b1⟩ := three_new w u s
  have M0 : M3 w w.heap.size u s (0, 0) (((w.alloc (.cells #[.int .i64 u.1, .int .i64 u.2] 36)).alloc (.cells #[.int .i64 s.1, .int .i64 s.2] 36)).alloc (.cells #[.int .i64 0, .int .i64 0] 36)) := ⟨s1, s2, s3, b1, Nat.le_refl _⟩
  clear s1 s2 s3 b1
  have HF := len_any s
  have eqb := eq_sp u.1 u.2 0 0
  have eqg := eq_guard
  by_cases hl : lenI s = 0
  · have H : Hid (widerP u s = u) := Lib.hid (wider_none u s hl)
    have hl1 : (lenI s == 0) = true := by simpa using hl
    generalize lenI s = n at *
    have HFF := Lib.hid HF
    clear HF hl
    go_enter Try.func85, Try.ntmps85
    go_wp2_with fail
    generalize ((w.alloc (.cells #[.int .i64 u.1, .int .i64 u.2] 36)).alloc (.cells #[.int .i64 s.1, .int .i64 s.2] 36)).alloc (.cells #[.int .i64 0, .int .i64 0] 36) = W at *
    generalize w.heap.size = B at *
    refine (HFF.out _).mono ?_
    rintro e w1 ⟨rfl, h1⟩
    have M1 := M0.later h1
    clear M0 h1
    have M4 := M1.put2 (u.1) (u.2)
    have g0 := M1.b2.c0; have g1 := M1.b2.c1; have g2 := M1.b2.f0; have g3 := M1.b2.f1
    have c0 := M1.b0.c0; have c1 := M1.b0.c1; have d0 := M1.b1.c0; have d1 := M1.b1.c1
    clear M1
    go_wp2_with fail
    have e0 := M4.b2.c0; have e1 := M4.b2.c1
    exact bodyPost_ret (v := spV u) (by simp [results, Try.results85, go_sem, e0, e1]) rfl ⟨by rw [H.out], M4.below⟩
  · have hl1 : (lenI s == 0) = false := by simpa using hl
    by_cases hz : u = (0, 0)
    · have H : Hid (widerP u s = s) := Lib.hid (by rw [hz]; exact wider_first s hl)
      have hb : (u.1 == 0 && u.2 == 0) = true := by simp [hz]
      rw [hb] at eqb
      generalize lenI s = n at *
      have HFF := Lib.hid HF
      clear HF hl hz hb
      go_enter Try.func85, Try.ntmps85
      go_wp2_with fail
      generalize ((w.alloc (.cells #[.int .i64 u.1, .int .i64 u.2] 36)).alloc (.cells #[.int .i64 s.1, .int .i64 s.2] 36)).alloc (.cells #[.int .i64 0, .int .i64 0] 36) = W at *
      generalize w.heap.size = B at *
      refine (HFF.out _).mono ?_
      rintro e w1 ⟨rfl, h1⟩
      have M1 := M0.later h1
      clear M0 h1
      have M4 := M1.put2 (s.1) (s.2)
      have g0 := M1.b2.c0; have g1 := M1.b2.c1; have g2 := M1.b2.f0; have g3 := M1.b2.f1
      have c0 := M1.b0.c0; have c1 := M1.b0.c1; have d0 := M1.b1.c0; have d1 := M1.b1.c1
      clear M1
      go_wp2_with fail
      have e0 := M4.b2.c0; have e1 := M4.b2.c1
      exact bodyPost_ret (v := spV s) (by simp [results, Try.results85, go_sem, e0, e1]) rfl ⟨by rw [H.out], M4.below⟩
    · have H : Hid (widerP u s = (min u.1 s.1, max u.2 s.2)) := Lib.hid (wider_more hl hz)
      have hb : (u.1 == 0 && u.2 == 0) = false := by
        rw [Bool.eq_false_iff]; intro hx; apply hz; simp at hx; exact Prod.ext hx.1 hx.2
      rw [hb] at eqb
      generalize lenI s = n at *
      have HFF := Lib.hid HF
      clear HF hl hz hb
      go_enter Try.func85, Try.ntmps85
      go_wp2_with fail
      generalize ((w.alloc (.cells #[.int .i64 u.1, .int .i64 u.2] 36)).alloc (.cells #[.int .i64 s.1, .int .i64 s.2] 36)).alloc (.cells #[.int .i64 0, .int .i64 0] 36) = W at *
      generalize w.heap.size = B at *
      refine (HFF.out _).mono ?_
      rintro e w1 ⟨rfl, h1⟩
      have M1 := M0.later h1
      clear M0 h1
      have g0 := M1.b2.c0; have g1 := M1.b2.c1; have g2 := M1.b2.f0; have g3 := M1.b2.f1
      have c0 := M1.b0.c0; have c1 := M1.b0.c1; have d0 := M1.b1.c0; have d1 := M1.b1.c1
      go_wp2_with fail
      all_goals
        first
        | (have M4 := M1.put2 u.1 u.2; have e0 := M4.b2.c0; have e1 := M4.b2.c1; exact bodyPost_ret (v := spV (u.1, u.2)) (by simp [results, Try.results85, go_sem, e0, e1]) rfl ⟨by rw [H.out, show min u.1 s.1 = u.1 by omega, show max u.2 s.2 = u.2 by omega], M4.below⟩)
        | (have M4 := M1.put2 u.1 s.2; have e0 := M4.b2.c0; have e1 := M4.b2.c1; exact bodyPost_ret (v := spV (u.1, s.2)) (by simp [results, Try.results85, go_sem, e0, e1]) rfl ⟨by rw [H.out, show min u.1 s.1 = u.1 by omega, show max u.2 s.2 = s.2 by omega], M4.below⟩)
        | (have M4 := M1.put2 s.1 u.2; have e0 := M4.b2.c0; have e1 := M4.b2.c1; exact bodyPost_ret (v := spV (s.1, u.2)) (by simp [results, Try.results85, go_sem, e0, e1]) rfl ⟨by rw [H.out, show min u.1 s.1 = s.1 by omega, show max u.2 s.2 = u.2 by omega], M4.below⟩)
        | (have M4 := M1.put2 s.1 s.2; have e0 := M4.b2.c0; have e1 := M4.b2.c1; exact bodyPost_ret (v := spV (s.1, s.2)) (by simp [results, Try.results85, go_sem, e0, e1]) rfl ⟨by rw [H.out, show min u.1 s.1 = s.1 by omega, show max u.2 s.2 = s.2 by omega], M4.below⟩)
end Go.Proofs.Ytekddgmmfgpehaa.sp
