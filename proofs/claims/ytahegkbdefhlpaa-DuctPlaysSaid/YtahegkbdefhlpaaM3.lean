/-
  Several texts in one: DctQ DctU DctV DctVd DctVe DctR DctJ
-/
import Derived.Test.YtahegkbdefhlpaaM2
/-!   DuctOnce: what came in; what stays from step to step.
-/
namespace Go.Proofs.Ytahegkbdefhlpaa.dc
open Go.RowKit Go.Shelf Go.Maps aid mem opn Go.ChangeShapes Go.WideShapes Go.ChangeAt
set_option linter.unusedVariables false
set_option linter.unusedSimpArgs false

/-- a list of bytes that came in -/
structure RwV where
  a : Option Addr
  n : Nat
  c : Nat
  l : List Int
instance : Inhabited RwV := ⟨⟨none, 0, 0, []⟩⟩
def RwIs (w : World) (cs : List Value) (v : RwV) : Prop := cs = [.slice v.a v.n v.c] ∧ SlA .u8 w v.a v.n v.c v.l
structure RwA (w : World) (a : Option Addr) (n cap : Nat) (L : List RwV) : Prop where
  len : L.length = n
  le : n ≤ cap
  most : cap ≤ maxLen
  cells : 0 < n → ∃ b off, a = some ⟨b, off, none⟩ ∧ ∀ i, i < n → w.cell? ⟨b, off + i, none⟩ = some (.slice (L.getD i default).a (L.getD i default).n (L.getD i default).c) ∧ SlA .u8 w (L.getD i default).a (L.getD i default).n (L.getD i default).c (L.getD i default).l
section
variable {H : Type} {enc : TypeId × Value → H} {w : World} {base : Nat}
theorem row_of (n : Nat) (cs : List Value) (d : DataW H) (p : List MemPlace)
    (h : DataW.trod enc Try.prog w base (fun _ => true) true n 23 cs = some (d, p)) : ∃ x : RwV, RwIs w cs x ∧ True := by
  rcases open_ints Try.underlying23 Try.underlying5 cells_u8 h with ⟨hcs, _⟩ | ⟨a, len, cap, zs, hcs, _, hl, hm, hz, _, hcell, hwz⟩
  · exact ⟨⟨none, 0, 0, []⟩, ⟨hcs, sl_of_row (.inl ⟨rfl, rfl, rfl, rfl⟩)⟩, trivial⟩
  · exact ⟨⟨some a, len, cap, zs.take len⟩, ⟨hcs, sl_of_row (.inr ⟨_, rfl, hl, hm, by simpa using hz, hcell, hwz⟩)⟩, trivial⟩
theorem open_rows {a : Option Addr} {len cap : Nat} {d : DataW H} {p : List MemPlace}
    (h : ∃ fuel, DataW.trod enc Try.prog w base (fun _ => true) true fuel 36 [.slice a len cap] = some (d, p)) :
    ∃ l : List RwV, RwA w a len cap l ∧ True := by
  obtain ⟨l, hl, _⟩ := open_els (R := RwIs w) (D := fun _ _ => True) Try.underlying36 (by rw [cells_bts]; omega) h row_of
  rw [cells_bts] at hl
  refine ⟨l, ⟨hl.len, hl.le, hl.most, fun h0 => ?_⟩, trivial⟩
  obtain ⟨b, off, ha, hc⟩ := hl.cells h0
  refine ⟨b, off, ha, fun i hi => ?_⟩
  have hil : i < l.length := by rw [hl.len]; exact hi
  obtain ⟨cs, hR, _, hj⟩ := hc i hil
  have hg : l.getD i default = l[i] := by simp [List.getD, hil]
  obtain ⟨rfl, hok⟩ := hR
  rw [hg]
  have h0 := hj 0 (by omega)
  exact ⟨by simpa using h0, hok⟩
end
/-- behind i lists put -/
structure Pu (L : List RwV) (i : Nat) (x : Dk) : Prop where
  le : x.l.length ≤ i
  all : ∀ j, j < x.l.length → (cpAt x.l j).k = 0 ∧ ∃ m : Nat, m < i ∧ (cpAt x.l j).a = (m : Int) ∧ (cpAt x.l j).raw = (L.getD m default).l ∧ (cpAt x.l j).raw.length ≤ 2096
  now : x.now ≤ i
theorem Pu.fly {L : List RwV} {i : Nat} {x : Dk} (h : Pu L i x) : dc.fly x.l = List.range x.l.length := by
  unfold dc.fly
  apply List.filter_eq_self.2
  intro j hj
  simpa using (h.all j (by simpa using hj)).1
theorem Pu.long {L : List RwV} {i : Nat} {x : Dk} (h : Pu L i x) (hi : i < 60) {n : Nat} (hn : 2096 < n) : putE x n i = 9 ∧ Pu L (i + 1) x := by
  have hw : whenE x (i : Int) = 0 := when0.2 ⟨h.now, by omega⟩
  refine ⟨by unfold putE; rw [hw, if_neg (by decide), if_pos hn], by have := h.le; omega, fun j hj => ?_, by have := h.now; omega⟩
  obtain ⟨h1, m, h2, h3⟩ := h.all j hj
  exact ⟨h1, m, by omega, h3⟩
theorem Pu.put {L : List RwV} {i : Nat} {x : Dk} (h : Pu L i x) (hi : i < 60) (hn : ¬ 2096 < (L.getD i default).l.length) : putE x (L.getD i default).l.length i = 0 ∧ Pu L (i + 1) (putX x (L.getD i default).l i) ∧ (putX x (L.getD i default).l i).l.length = x.l.length + 1 := by
  have hw : whenE x (i : Int) = 0 := when0.2 ⟨h.now, by omega⟩
  have hs : sendE x = 0 := by unfold sendE; rw [h.fly, if_neg (by have := h.le; simp; omega)]
  have e : putE x (L.getD i default).l.length i = 0 := by unfold putE; rw [hw, if_neg (by decide), if_neg hn, hs]
  have hlen : (putX x (L.getD i default).l i).l.length = x.l.length + 1 := by unfold putX; rw [e, if_pos rfl]; simp
  refine ⟨e, ⟨by rw [hlen]; have := h.le; omega, fun j hj => ?_, ?_⟩, hlen⟩
  · rw [hlen] at hj
    unfold putX
    rw [e, if_pos rfl]
    dsimp only
    by_cases c : j < x.l.length
    · rw [cpAt_lt c]
      obtain ⟨h1, m, h2, h3⟩ := h.all j c
      exact ⟨h1, m, by omega, h3⟩
    · have : j = x.l.length := by omega
      subst this
      rw [cpAt_new]
      exact ⟨rfl, i, by omega, rfl, rfl, by show (L.getD i default).l.length ≤ 2096; omega⟩
  · unfold putX
    rw [e, if_pos rfl]
    show (i : Int) ≤ ((i + 1 : Nat) : Int)
    omega
/-- in the second loop -/
structure Qn (L : List RwV) (M n came dropped i : Nat) (x : Dk) : Prop where
  len : x.l.length = n
  all : ∀ j, j < n → ∃ m : Nat, m < M ∧ (cpAt x.l j).a = (m : Int) ∧ (cpAt x.l j).raw = (L.getD m default).l ∧ (cpAt x.l j).raw.length ≤ 2096
  now : x.now ≤ 100 + i
  cnt : (fly x.l).length + came + dropped = n
  n60 : n ≤ 60
theorem Pu.qn {L : List RwV} {i : Nat} {x : Dk} (h : Pu L i x) (hi : i ≤ 60) : Qn L i x.l.length 0 0 0 x :=
  ⟨rfl, fun j hj => (h.all j hj).2, by have := h.now; omega, by rw [h.fly]; simp, by have := h.le; omega⟩
theorem Qn.when {L : List RwV} {M n came dropped i : Nat} {x : Dk} (h : Qn L M n came dropped i x) (hi : i < 200) : whenE x (100 + (i : Int)) = 0 := when0.2 ⟨h.now, by omega⟩
theorem Qn.next {L : List RwV} {M n came dropped i : Nat} {x : Dk} (h : Qn L M n came dropped i x) : Qn L M n came dropped (i + 1) x := ⟨h.len, h.all, by have := h.now; omega, h.cnt, h.n60⟩
theorem Qn.which {L : List RwV} {M n came dropped i : Nat} {x : Dk} (h : Qn L M n came dropped i x) (hi : i < 200) (id : Int) : whichE x id (100 + (i : Int)) = if isF x id then 0 else 10 := by
  unfold whichE; rw [h.when hi, if_neg (by decide)]
/-- one ends -/
theorem Qn.ended {L : List RwV} {M n came dropped i : Nat} {x : Dk} (h : Qn L M n came dropped i x) (hi : i < 200) {id : Int} (hf : isF x id) (k : Int) (hk : k ≠ 0) :
    endX x id (100 + (i : Int)) k = endL x id.toNat (100 + (i : Int)) k ∧ (endL x id.toNat (100 + (i : Int)) k).l.length = n ∧ (fly (endL x id.toNat (100 + (i : Int)) k).l).length + 1 = (fly x.l).length ∧
    (∀ j, j < n → ∃ m : Nat, m < M ∧ (cpAt (endL x id.toNat (100 + (i : Int)) k).l j).a = (m : Int) ∧ (cpAt (endL x id.toNat (100 + (i : Int)) k).l j).raw = (L.getD m default).l ∧ (cpAt (endL x id.toNat (100 + (i : Int)) k).l j).raw.length ≤ 2096) ∧
    (endL x id.toNat (100 + (i : Int)) k).now ≤ 100 + ((i + 1 : Nat) : Int) := by
  have hlt := (isF_lt hf).1
  refine ⟨by unfold endX; rw [h.which hi, if_pos hf, if_pos rfl], by unfold endL; simp [h.len], ?_, fun j hj => ?_, by show (100 + (i : Int)) ≤ _; omega⟩
  · obtain ⟨p, hp, _, hfl⟩ := fly_end hf.2 (100 + (i : Int)) k hk
    rw [hfl, List.length_append, List.length_take, List.length_drop]
    omega
  · by_cases e : j = id.toNat
    · subst e
      have : cpAt (endL x id.toNat (100 + (i : Int)) k).l id.toNat = endC (cpAt x.l id.toNat) (100 + (i : Int)) k := by unfold endL; rw [cpAt_set hlt, if_pos rfl]
      rw [this]
      exact h.all _ hj
    · rw [cpAt_end hlt _ _ e]
      exact h.all _ hj
theorem Qn.came {L : List RwV} {M n came dropped i : Nat} {x : Dk} (h : Qn L M n came dropped i x) (hi : i < 200) {id : Int} (hf : isF x id) : Qn L M n (came + 1) dropped (i + 1) (endX x id (100 + (i : Int)) 1) := by
  obtain ⟨e, e1, e2, e3, e4⟩ := h.ended hi hf 1 (by decide)
  rw [e]
  exact ⟨e1, e3, e4, by have := h.cnt; omega, h.n60⟩
theorem Qn.drop {L : List RwV} {M n came dropped i : Nat} {x : Dk} (h : Qn L M n came dropped i x) (hi : i < 200) {id : Int} (hf : isF x id) : Qn L M n came (dropped + 1) (i + 1) (endX x id (100 + (i : Int)) 2) := by
  obtain ⟨e, e1, e2, e3, e4⟩ := h.ended hi hf 2 (by decide)
  rw [e]
  exact ⟨e1, e3, e4, by have := h.cnt; omega, h.n60⟩
theorem Qn.none {L : List RwV} {M n came dropped i : Nat} {x : Dk} (h : Qn L M n came dropped i x) (hi : i < 200) {id : Int} (hf : ¬ isF x id) (k : Int) : endX x id (100 + (i : Int)) k = x ∧ whichE x id (100 + (i : Int)) = 10 ∧ takL x id (100 + (i : Int)) = [] := by
  have e : whichE x id (100 + (i : Int)) = 10 := by rw [h.which hi, if_neg hf]
  exact ⟨by unfold endX; rw [e, if_neg (by decide)], e, by unfold takL; rw [e, if_neg (by decide)]⟩
/-- it is under way just if it is known and its kind is 0 -/
theorem isF_iff (x : Dk) (id : Int) : isF x id ↔ fdI x id ∧ (ftI x id).k = 0 := by
  constructor
  · intro h
    obtain ⟨h1, h2, h3⟩ := isF_lt h
    have : fdI x id := ⟨h.1, by omega⟩
    exact ⟨this, by unfold ftI; rw [if_pos this]; exact h3⟩
  · rintro ⟨h1, h2⟩
    unfold ftI at h2
    rw [if_pos h1] at h2
    exact ⟨h1.1, mem_fly.2 ⟨by have := h1.1; have := h1.2; omega, h2⟩⟩
end Go.Proofs.Ytahegkbdefhlpaa.dc
/-!   Layer 25's reference in memory: rows of copies; Len, Is, Nth.
-/
namespace Go.Proofs.Ytahegkbdefhlpaa.dc
open Go.RowKit Go.Maps aid mem
attribute [local go_sem ↓] Go.wp_at_zero Go.wp_at_succ
set_option linter.unusedVariables false
set_option linter.unusedSimpArgs false

/-- a copy of the document's, and where its bytes lie -/
structure Rc where
  c : Cp
  a : Option Addr
  n : Nat
instance : Inhabited Rc := ⟨⟨default, none, 0⟩⟩
def rfc (q : Rc) : List Value := [.int .i64 q.c.f, .int .i64 q.c.a, .int .i64 q.c.e, .int .i64 q.c.k, .slice q.a q.c.raw.length q.n]
def rfC (L : List Rc) : List Value := L.flatMap rfc
def rcAt (L : List Rc) (i : Nat) : Rc := L.getD i default
theorem rfC_len (L : List Rc) : (rfC L).length = L.length * 5 := by
  induction L with
  | nil => rfl
  | cons x l ih => simp only [rfC, rfc, List.flatMap_cons, List.length_append, List.length_cons, List.length_nil] at *; omega
theorem rfC_append (l r : List Rc) : rfC (l ++ r) = rfC l ++ rfC r := by simp [rfC]
theorem rfC_get (l : List Rc) : ∀ i, i < l.length → ∀ j, j < 5 → (rfC l)[i * 5 + j]? = (rfc (rcAt l i))[j]? := by
  induction l with
  | nil => intro i h; simp at h
  | cons x l ih =>
    intro i h j hj
    cases i with
    | zero =>
      have : rfC (x :: l) = rfc x ++ rfC l := rfl
      rw [this, Nat.zero_mul, Nat.zero_add, List.getElem?_append_left (by simpa [rfc] using hj)]
      rfl
    | succ i =>
      have := ih i (by simpa using h) j hj
      rw [show (i + 1) * 5 + j = i * 5 + j + 5 by omega]
      exact this
theorem rfC_set (l : List Rc) : ∀ i, i < l.length → ∀ (n k : Int), ((rfC l).set (i * 5 + 2) (.int .i64 n)).set (i * 5 + 3) (.int .i64 k) = rfC (l.set i ⟨endC (rcAt l i).c n k, (rcAt l i).a, (rcAt l i).n⟩) := by
  induction l with
  | nil => intro i h; simp at h
  | cons x l ih =>
    intro i h n k
    cases i with
    | zero => rfl
    | succ i =>
      have := ih i (by simpa using h) n k
      rw [show (i + 1) * 5 + 2 = i * 5 + 2 + 5 by omega, show (i + 1) * 5 + 3 = i * 5 + 3 + 5 by omega]
      show (Value.int .i64 x.c.f :: Value.int .i64 x.c.a :: Value.int .i64 x.c.e :: Value.int .i64 x.c.k :: Value.slice x.a x.c.raw.length x.n :: (((rfC l).set (i * 5 + 2) (.int .i64 n)).set (i * 5 + 3) (.int .i64 k))) = _
      rw [this]; rfl
theorem rfC_one (l : List Rc) : ∀ u ∈ rfC l, u.oneCell' = true := by
  intro u hu
  simp only [rfC, List.mem_flatMap] at hu
  obtain ⟨x, _, hx⟩ := hu
  simp [rfc] at hx
  rcases hx with rfl | rfl | rfl | rfl | rfl <;> rfl
/-- the document's duct in memory -/
structure RfA (w0 w : World) (a : Option Addr) (cap : Nat) (L : List Rc) (x : Dk) : Prop where
  row : SlR w 72 5 a x.l.length cap (rfC L)
  raws : ∀ q ∈ L, SlA .u8 w0 q.a q.c.raw.length q.n q.c.raw
  eq : L.map (·.c) = x.l
abbrev rfV (x : Dk) (a : Option Addr) (cap : Nat) : Value := .agg #[.int .i64 x.now, .slice a x.l.length cap]
abbrev rfO (x : Dk) (a : Option Addr) (cap : Nat) : Obj := .cells #[.int .i64 x.now, .slice a x.l.length cap] 31
section
variable {w0 w w' : World} {a : Option Addr} {cap : Nat} {L : List Rc} {x : Dk} (R : RfA w0 w a cap L x)
include R
theorem RfA.keep {T : List Nat} (hk : Kept T w w') (h1 : ∀ b ∈ T, ∀ cs, w.heap[b]? ≠ some (.cells cs 72 (0, 0))) : RfA w0 w' a cap L x :=
  ⟨R.row.keep hk (fun b hb e => by obtain ⟨_, cs, hc⟩ := R.row.lt b hb; exact h1 b e cs hc), R.raws, R.eq⟩
theorem RfA.later (hb : Below w.heap.size w w') : RfA w0 w' a cap L x := R.keep (Kept.of_below hb (Nat.le_refl _) []) (fun b hb => by simp at hb)
theorem RfA.len : L.length = x.l.length := by rw [← R.eq, List.length_map]
theorem RfA.at {i : Nat} (hi : i < x.l.length) : cpAt x.l i = (rcAt L i).c ∧ rcAt L i ∈ L := by
  have hl : i < L.length := by rw [R.len]; exact hi
  refine ⟨?_, ?_⟩
  · rw [← R.eq]
    simp [cpAt, rcAt, List.getD, hl]
  · simp [rcAt, List.getD, hl]
/-- a row's cells -/
theorem RfA.cells {i : Nat} (hi : i < x.l.length) : ∃ g off, a = some ⟨g, off, none⟩ ∧ x.l.length ≤ cap ∧ cap ≤ maxLen ∧ w.cell? ⟨g, off + i * 5, none⟩ = some (.int .i64 (cpAt x.l i).f) ∧ w.cell? ⟨g, off + i * 5 + 1, none⟩ = some (.int .i64 (cpAt x.l i).a) ∧
    w.cell? ⟨g, off + i * 5 + 2, none⟩ = some (.int .i64 (cpAt x.l i).e) ∧ w.cell? ⟨g, off + i * 5 + 3, none⟩ = some (.int .i64 (cpAt x.l i).k) ∧ w.cell? ⟨g, off + i * 5 + 4, none⟩ = some (.slice (rcAt L i).a (cpAt x.l i).raw.length (rcAt L i).n) := by
  have hle := R.row.le
  obtain ⟨g, off, e, hc⟩ := R.row.cell (by omega)
  have hl := R.len
  rw [(R.at hi).1]
  have hh : ∀ j, j < 5 → w.cell? ⟨g, off + i * 5 + j, none⟩ = (rfc (rcAt L i))[j]? := fun j hj => by rw [Nat.add_assoc, hc (i * 5 + j) (by omega)]; exact rfC_get L i (by omega) j hj
  exact ⟨g, off, e, hle, R.row.most, hh 0 (by omega), hh 1 (by omega), hh 2 (by omega), hh 3 (by omega), hh 4 (by omega)⟩
theorem RfA.raw {i : Nat} (hi : i < x.l.length) : SlA .u8 w0 (rcAt L i).a (cpAt x.l i).raw.length (rcAt L i).n (cpAt x.l i).raw := by
  obtain ⟨h1, h2⟩ := R.at hi
  rw [h1]
  exact R.raws _ h2
end
/-- how many of the first are under way -/
def cntF (l : List Cp) (k : Nat) : Nat := ((List.range k).filter (fun i => decide ((cpAt l i).k = 0))).length
theorem cntF_zero (l : List Cp) : cntF l 0 = 0 := rfl
theorem cntF_all (l : List Cp) : cntF l l.length = (fly l).length := rfl
theorem cntF_le (l : List Cp) (k : Nat) : cntF l k ≤ k := by
  have := List.length_filter_le (fun i => decide ((cpAt l i).k = 0)) (List.range k)
  simpa [cntF] using this
theorem cntF_yes {l : List Cp} {k : Nat} (h : (cpAt l k).k = 0) : cntF l (k + 1) = cntF l k + 1 := by
  unfold cntF
  rw [List.range_succ, List.filter_append, List.length_append, List.filter_cons, if_pos (by simpa using h)]
  rfl
theorem cntF_no {l : List Cp} {k : Nat} (h : (cpAt l k).k ≠ 0) : cntF l (k + 1) = cntF l k := by
  unfold cntF
  rw [List.range_succ, List.filter_append, List.length_append, List.filter_cons, if_neg (by simpa using h)]
  simp
theorem fly_cnt {l : List Cp} {k : Nat} (h : (cpAt l k).k = 0) : ∀ N, k < N → ((List.range N).filter (fun i => decide ((cpAt l i).k = 0)))[cntF l k]? = some k := by
  intro N
  induction N with
  | zero => intro q; omega
  | succ N ih =>
    intro q
    rw [List.range_succ, List.filter_append]
    by_cases e : k = N
    · subst e
      rw [List.filter_cons, if_pos (by simpa using h)]
      unfold cntF
      simp
    · have := ih (by omega)
      rw [List.getElem?_append_left (List.getElem?_eq_some_iff.1 this).1]
      exact this
/-- the number of the i-th under way -/
def nthV (x : Dk) (i : Nat) : Int := match (fly x.l)[i]? with | some k => (k : Int) | none => -1
theorem nthV_yes {x : Dk} {i k : Nat} (h : (fly x.l)[i]? = some k) : nthV x i = k := by unfold nthV; rw [h]
theorem nthV_no {x : Dk} {i : Nat} (h : (fly x.l).length ≤ i) : nthV x i = -1 := by unfold nthV; rw [List.getElem?_eq_none h]
abbrev RetI (v : Value) (w : World) (e : Ending) (w' : World) : Prop := e = .returned v ∧ Below w.heap.size w w'
set_option maxHeartbeats 1000000 in
theorem rlen_any {w0 w : World} {a : Option Addr} {cap : Nat} {L : List Rc} {x : Dk} (R : RfA w0 w a cap L x) (hn : x.l.length ≤ 1000000) : Calls Try.prog 25 #[rfV x a cap] w (RetI (.int .i64 ((fly x.l).length : Nat)) w) := by
  have hb := bal (w := w) (rfO x a cap)
  have hx := heap_alloc_new w (rfO x a cap)
  have R' := R.later hb
  obtain ⟨W, hW⟩ : ∃ W, W = w.alloc (rfO x a cap) := ⟨_, rfl⟩
  rw [← hW] at R' hb hx
  have c1 := cofr hx 1 _ rfl
  have HB := Lib.hid (fun q => bdn hb q)
  have HC := Lib.hid (fun i (hi : i < x.l.length) => R'.cells hi)
  have HE := Lib.hid (cntF_all x.l)
  have HY := Lib.hid (fun k => cntF_yes (l := x.l) (k := k))
  have HN := Lib.hid (fun k => cntF_no (l := x.l) (k := k))
  have HL := Lib.hid (cntF_le x.l)
  clear R R' hx hb
  rw [← HE.out]
  go_enter Try.func25, Try.ntmps25
  go_upto_region 1 with fail
  rw [← hW]
  clear hW
  go_wp2_with fail
  go_loopw [3, 4] (fun m i wr => ∃ k : Nat, k ≤ x.l.length ∧ m = .int .i64 (cntF x.l k : Nat) ∧ i = .int .i64 (k : Nat) ∧ ∃ q, wr = W.drewN q) (fun _ i _ => x.l.length - (intOf i).toNat)
  case atStart => exact ⟨0, Nat.zero_le _, rfl, rfl, 0, rfl⟩
  case round =>
    obtain ⟨k, hk, rfl, rfl, q, rfl⟩ := hrel
    by_cases hlt : k < x.l.length
    · obtain ⟨g, off, hg, hlc, hcm, k0, k1, k2, k3, k4⟩ := HC.out k hlt
      rw [hg] at c1
      unfold maxLen at hcm
      clear k0 k1 k2 k4
      have HY1 := Lib.hid (HY.out k)
      have HN1 := Lib.hid (HN.out k)
      have hle := HL.out k
      by_cases hz : (cpAt x.l k).k = 0
      · have e := HY1.out hz
        rw [hz] at k3
        clear HY1 HN1 hz
        have EH := Lib.hid e
        clear e
        generalize hz0 : cntF x.l k = z0 at *
        go_wp2_with fail
        go_roundw
        case rel => exact ⟨k + 1, by omega, by rw [EH.out]; go_num, by go_num, _, rfl⟩
        case measure => simp [intOf]; omega
      · have e := HN1.out hz
        clear HY1 HN1
        generalize (cpAt x.l k).k = z at *
        go_wp2_with fail
        go_roundw
        case rel => exact ⟨k + 1, by omega, by rw [e], by go_num, _, rfl⟩
        case measure => simp [intOf]; omega
    · obtain rfl : k = x.l.length := by omega
      go_wp2_with fail
      go_ret
      exact ⟨rfl, HB.out q⟩
set_option maxHeartbeats 1000000 in
theorem ris_any {w0 w : World} {a : Option Addr} {cap : Nat} {L : List Rc} {x : Dk} (R : RfA w0 w a cap L x) (hn : x.l.length ≤ 1000000) (id : Int) : Calls Try.prog 37 #[rfV x a cap, .int .i64 id] w (RetI (.bool (decide (isF x id))) w) := by
  have hb := bal (w := w) (rfO x a cap)
  have hx := heap_alloc_new w (rfO x a cap)
  have R' := R.later hb
  obtain ⟨W, hW⟩ : ∃ W, W = w.alloc (rfO x a cap) := ⟨_, rfl⟩
  rw [← hW] at R' hb hx
  have c1 := cofr hx 1 _ rfl
  have HB := Lib.hid hb
  by_cases h0 : 0 ≤ id
  case neg =>
    have e : Hid (decide (isF x id) = false) := Lib.hid (decide_eq_false (fun q => h0 q.1))
    rw [e.out]
    clear e R R' hx hb
    go_enter Try.func37, Try.ntmps37
    go_upto_region 1 with fail
    rw [← hW]
    clear hW
    go_wp2_with fail
    go_ret
    exact ⟨rfl, HB.out⟩
  obtain ⟨i, rfl⟩ : ∃ i : Nat, id = (i : Int) := ⟨id.toNat, by omega⟩
  by_cases h1 : i < x.l.length
  case neg =>
    have e : Hid (decide (isF x (i : Int)) = false) := Lib.hid (decide_eq_false (fun q => h1 (by have := (isF_lt q).1; simpa using this)))
    rw [e.out]
    clear e R R' hx hb
    go_enter Try.func37, Try.ntmps37
    go_upto_region 1 with fail
    rw [← hW]
    clear hW
    go_wp2_with fail
    go_ret
    exact ⟨rfl, HB.out⟩
  obtain ⟨g, off, hg, hlc, hcm, k0, k1, k2, k3, k4⟩ := R'.cells h1
  rw [hg] at c1
  unfold maxLen at hcm
  have e : Hid (decide (isF x (i : Int)) = decide ((cpAt x.l i).k = 0)) := Lib.hid (by
    rw [decide_eq_decide]
    exact ⟨fun q => by have := (isF_lt q).2.2; simpa using this, fun q => ⟨by omega, by rw [Int.toNat_natCast]; exact mem_fly.2 ⟨h1, q⟩⟩⟩)
  rw [e.out]
  clear e R R' hx hb k0 k1 k2 k4
  generalize (cpAt x.l i).k = z at *
  subst hg
  go_enter Try.func37, Try.ntmps37
  go_upto_region 1 with fail
  rw [← hW]
  clear hW
  go_wp2_with fail
  go_ret
  exact ⟨rfl, HB.out⟩
set_option maxHeartbeats 1000000 in
theorem rnth_any {w0 w : World} {a : Option Addr} {cap : Nat} {L : List Rc} {x : Dk} (R : RfA w0 w a cap L x) (hn : x.l.length ≤ 1000000) (i : Nat) (hi : i ≤ 1000000) : Calls Try.prog 26 #[rfV x a cap, .int .i64 (i : Nat)] w (RetI (.int .i64 (nthV x i)) w) := by
  have hb := bal (w := w) (rfO x a cap)
  have hx := heap_alloc_new w (rfO x a cap)
  have R' := R.later hb
  obtain ⟨W, hW⟩ : ∃ W, W = w.alloc (rfO x a cap) := ⟨_, rfl⟩
  rw [← hW] at R' hb hx
  have c1 := cofr hx 1 _ rfl
  have HB := Lib.hid (fun q => bdn hb q)
  have HC := Lib.hid (fun i (hi : i < x.l.length) => R'.cells hi)
  have HE := Lib.hid (cntF_all x.l)
  have HY := Lib.hid (fun k => cntF_yes (l := x.l) (k := k))
  have HN := Lib.hid (fun k => cntF_no (l := x.l) (k := k))
  have HV := Lib.hid (fun k (hk : k < x.l.length) (hz : (cpAt x.l k).k = 0) (e : cntF x.l k = i) => nthV_yes (x := x) (i := i) (k := k) (by rw [← e]; exact fly_cnt hz x.l.length hk))
  have HW := Lib.hid (nthV_no (x := x) (i := i))
  clear R R' hx hb
  go_enter Try.func26, Try.ntmps26
  go_upto_region 1 with fail
  rw [← hW]
  clear hW
  go_wp2_with fail
  go_loopw [5, 6] (fun m i' wr => ∃ k : Nat, k ≤ x.l.length ∧ cntF x.l k ≤ i ∧ m = .int .i64 ((i - cntF x.l k : Nat)) ∧ i' = .int .i64 (k : Nat) ∧ ∃ q, wr = W.drewN q) (fun _ i _ => x.l.length - (intOf i).toNat)
  case atStart => exact ⟨0, Nat.zero_le _, Nat.zero_le _, rfl, rfl, 0, rfl⟩
  case round =>
    obtain ⟨k, hk, hki, rfl, rfl, q, rfl⟩ := hrel
    by_cases hlt : k < x.l.length
    · obtain ⟨g, off, hg, hlc, hcm, k0, k1, k2, k3, k4⟩ := HC.out k hlt
      rw [hg] at c1
      unfold maxLen at hcm
      clear k0 k1 k2 k4
      by_cases hz : (cpAt x.l k).k = 0
      · have e := HY.out k hz
        have HV1 := Lib.hid (HV.out k hlt hz)
        rw [hz] at k3
        clear hz
        by_cases hzi : cntF x.l k = i
        · have ev := Lib.hid (HV1.out hzi)
          rw [ev.out]
          have e0 : i - cntF x.l k = 0 := by omega
          rw [e0]
          clear e0 e hzi hki HV1
          go_wp2_with fail
          go_ret
          exact ⟨rfl, HB.out q⟩
        · have hne : ¬ ((i - cntF x.l k : Nat) : Int) = 0 := by omega
          have e1 : Hid (i - cntF x.l (k + 1) = i - cntF x.l k - 1) := Lib.hid (by omega)
          have e2 : Hid (cntF x.l (k + 1) ≤ i) := Lib.hid (by omega)
          have hm : 1 ≤ i - cntF x.l k := by omega
          have hm2 : i - cntF x.l k ≤ 1000000 := by omega
          clear e hzi hki HV1
          generalize hm0 : i - cntF x.l k = m at *
          go_wp2_with fail
          go_roundw
          case rel => exact ⟨k + 1, by omega, e2.out, by rw [e1.out]; go_num, by go_num, _, rfl⟩
          case measure => simp [intOf]; omega
      · have e := HN.out k hz
        have e1 : Hid (i - cntF x.l (k + 1) = i - cntF x.l k) := Lib.hid (by omega)
        have e2 : Hid (cntF x.l (k + 1) ≤ i) := Lib.hid (by omega)
        clear e
        generalize (cpAt x.l k).k = z at *
        go_wp2_with fail
        go_roundw
        case rel => exact ⟨k + 1, by omega, e2.out, by rw [e1.out], by go_num, _, rfl⟩
        case measure => simp [intOf]; omega
    · obtain rfl : k = x.l.length := by omega
      go_wp2_with fail
      exact bodyPost_ret (v := .int .i64 (-1)) (by simp [results, Try.results26, go_sem]) rfl ⟨by rw [HW.out (by rw [← HE.out]; exact hki)], HB.out q⟩
end Go.Proofs.Ytahegkbdefhlpaa.dc
/-!   Layer 25's reference: Put, Double, End.
-/
namespace Go.Proofs.Ytahegkbdefhlpaa.dc
open Go.RowKit Go.Maps aid mem
attribute [local go_sem ↓] Go.wp_at_zero Go.wp_at_succ
set_option linter.unusedVariables false
set_option linter.unusedSimpArgs false

section
variable {P : Program} (w : World)
/-- append of whatever, also of nothing, onto a slice that leads somewhere -/
theorem run_append_slr0 (t tx ty : TypeId) (e : TypeId) (i : TypeInfo) (z : Value) (sz bytes : Nat) (ht : P.underlying t = some (.slice e)) (hi : P.info? e = some i) (hz : i.zero = some z)
    (hsize : i.size = sz) (hsz : 0 < sz) (hby : i.bytes = bytes) (hzs : z.cells.size = sz)
    (g off : Nat) (n cap : Nat) (xs : List Value) (hown : SlR w e sz (some ⟨g, off, none⟩) n cap xs) (x : Value) (m : Nat) (news : List Value) (hs : Src P sz tx x m news w)
    (h63 : n + m ≤ maxLen) (hbytes : (n + m) * bytes ≤ 140737488355328) :
    ∃ a' cap' w', (Builtin.append_ #[t, tx] ty #[.slice (some ⟨g, off, none⟩) n cap, x]).run P w = .ok (.slice a' (n + m) cap') w' ∧ SlR w' e sz a' (n + m) cap' (xs ++ news) ∧ Kept (blk (some ⟨g, off, none⟩) cap) w w' ∧
      ∀ b ∈ blk a' cap', b ∈ blk (some ⟨g, off, none⟩) cap ∨ w.heap.size ≤ b := by
  by_cases hm : m = 0
  · subst hm
    have hnl : news.length = 0 := by simpa using hs.newsLen
    obtain rfl : news = [] := List.eq_nil_of_length_eq_zero hnl
    have hs' : Src P i.size tx x 0 [] w := by rw [hsize]; exact hs
    have hr := run_append_room_src (P := P) w t tx ty e i ht hi g off n cap x 0 [] hs' (by have := hown.le; omega) (fun j hj => by simp at hj) (fun j hj => by simp at hj)
    refine ⟨some ⟨g, off, none⟩, cap, w, hr, by rw [List.append_nil]; exact hown, Kept.refl _ _, fun b hb => .inl hb⟩
  · exact run_append_slr w t tx ty e i z sz bytes ht hi hz hsize hsz hby hzs (some ⟨g, off, none⟩) n cap xs hown x m (by omega) news hs h63 hbytes
/-- onto a fresh slice of nothing -/
theorem wpList_append_new {ops : Array Oper} {rest : List Oper} {o : Oper} {a : Act} {Q : Exit → Act → World → Prop} (hgd : o.guard = none) (s x : Operand) (t tx : TypeId)
    (ho : o.op = .call { callee := .builtin .append, args := #[s, x], argTypes := #[t, tx] })
    (e : TypeId) (i : TypeInfo) (z : Value) (sz bytes : Nat) (ht : P.underlying t = some (.slice e)) (hi : P.info? e = some i) (hz : i.zero = some z)
    (hsize : i.size = sz) (hsz : 0 < sz) (hby : i.bytes = bytes) (hzs : z.cells.size = sz)
    (g off : Nat) (hsv : a.eval s = .slice (some ⟨g, off, none⟩) 0 0) (xv : Value) (hx : a.eval x = xv) (m : Nat) (news : List Value) (hs : Src P sz tx xv m news w)
    (h63 : m ≤ maxLen) (hbytes : m * bytes ≤ 140737488355328)
    (h : ∀ a' cap' w', SlR w' e sz a' m cap' news → Below w.heap.size w w' → (∀ b ∈ blk a' cap', w.heap.size ≤ b) → wpList P ops Q rest (a.put o.dst (.slice a' m cap')) w') : wpList P ops Q (o :: rest) a w :=
  wpList_plain hgd fun _ hK => by
    obtain ⟨a', cap', w', hr, h2, h3, h4⟩ := run_append_slr0 (P := P) w t tx o.type e i z sz bytes ht hi hz hsize hsz hby hzs g off 0 0 [] (SlR.sub0 _) xv m news hs (by omega) (by simpa using hbytes)
    rw [Nat.zero_add] at hr h2
    rw [List.nil_append] at h2
    unfold Oper.wp execOp
    simp only [ho, resolve, invoke, builtin, Sem.run_bind, Sem.run_pure, Result.andThen_ok, List.map_toArray, List.map_cons, List.map_nil, hsv, hx, hr]
    refine hK _ _ (h a' cap' w' h2 (h3.below (by rw [blk_zero]; simp) (Nat.le_refl _)) (fun b hb => ?_))
    rcases h4 b hb with q | q
    · rw [blk_zero] at q; simp at q
    · exact q
end
theorem info_copy : (Try.prog.info? 72).map (fun i => (i.zero, i.size, i.bytes)) = some (some (.agg #[.int .i64 0, .int .i64 0, .int .i64 0, .int .i64 0, .slice none 0 0]), 5, 56) := by kernel_rfl
theorem copy_src (w : World) (q : Rc) : Src Try.prog 5 29 (.slice (some ⟨w.heap.size, 0, none⟩) 1 1) 1 (rfc q) (w.alloc (.cells #[.int .i64 q.c.f, .int .i64 q.c.a, .int .i64 q.c.e, .int .i64 q.c.k, .slice q.a q.c.raw.length q.n] 72)) := by
  refine Src.ofSlice (P := Try.prog) (size := 5) _ Try.underlying29 ⟨w.heap.size, 0, none⟩ 1 1 _ rfl ?_ (by intro u hu; simp [rfc] at hu; rcases hu with rfl | rfl | rfl | rfl | rfl <;> rfl)
  intro j u hu
  have e : Addr.add ⟨w.heap.size, 0, none⟩ j = ⟨w.heap.size, j, none⟩ := by cases j <;> simp [Addr.add]
  rw [e]
  exact cofr (heap_alloc_new w (.cells #[.int .i64 q.c.f, .int .i64 q.c.a, .int .i64 q.c.e, .int .i64 q.c.k, .slice q.a q.c.raw.length q.n] 72)) j u (by simpa [rfc] using hu)
theorem nts2 : (31 : TypeId) ≠ 72 ∧ (31 : TypeId) ≠ 5 ∧ (72 : TypeId) ≠ 5 := by decide
abbrev rfZ : Obj := .cells #[.int .i64 0, .slice none 0 0] 31
/-- the two boxes of a call -/
structure R2 (w : World) (x : Dk) (a : Option Addr) (cap : Nat) (W : World) : Prop where
  b0 : W.heap[w.heap.size]? = some (rfO x a cap)
  rs : W.heap[w.heap.size + 1]? = some rfZ
  below : Below w.heap.size w W
theorem R2.later {w W W' : World} {x : Dk} {a : Option Addr} {cap : Nat} (h : R2 w x a cap W) (hb : Below W.heap.size W W') : R2 w x a cap W' :=
  ⟨(hb.block _ (lt_of_block h.b0)).trans h.b0, (hb.block _ (lt_of_block h.rs)).trans h.rs, h.below.trans (hb.mono h.below.size)⟩
theorem R2.kept {w W W' : World} {x : Dk} {a : Option Addr} {cap : Nat} (h : R2 w x a cap W) {T : List Nat} (hk : Kept T W W') (hT : ∀ b ∈ T, w.heap.size + 1 < b) : R2 w x a cap W' :=
  ⟨hk.heap (fun e => by have := hT _ e; omega) h.b0, hk.heap (fun e => by have := hT _ e; omega) h.rs, h.below.trans (hk.below (fun b hb => by have := hT b hb; omega) h.below.size)⟩
theorem R2.put {w W : World} {x x' : Dk} {a a' : Option Addr} {cap cap' : Nat} (h : R2 w x a cap W) (i : Nat) (u : Value) (hz : (#[.int .i64 x.now, .slice a x.l.length cap] : Array Value).setIfInBounds i u = #[.int .i64 x'.now, .slice a' x'.l.length cap']) : R2 w x' a' cap' (W.setCell ⟨w.heap.size, i, none⟩ u) := by
  have hk : Kept [w.heap.size] W (W.setCell ⟨w.heap.size, i, none⟩ u) := (Kept.refl _ W).setCell (.inl (by simp)) _
  have e := heap_setCell_same W w.heap.size i _ _ u h.b0
  rw [hz] at e
  exact ⟨e, hk.heap (by simp) h.rs, h.below.trans (hk.below (by simp) h.below.size)⟩
theorem r2_new (w : World) (x : Dk) (a : Option Addr) (cap : Nat) : R2 w x a cap ((w.alloc (rfO x a cap)).alloc rfZ) := by
  have b1 := bal (w := w) (rfO x a cap)
  have y1 := heap_alloc_new w (rfO x a cap)
  have z1 : (w.alloc (rfO x a cap)).heap.size = w.heap.size + 1 := by simp
  generalize w.alloc (rfO x a cap) = w1 at *
  have b2 := bal (w := w1) rfZ
  have y2 := heap_alloc_new w1 rfZ
  rw [z1] at y2
  exact ⟨(b2.block _ (lt_of_block y1)).trans y1, y2, b1.trans (b2.mono b1.size)⟩
section
variable {w W : World} {x : Dk} {a : Option Addr} {cap : Nat} (h : R2 w x a cap W)
include h
theorem R2.cs : W.cell? ⟨w.heap.size, 0, none⟩ = some (.int .i64 x.now) ∧ W.cell? ⟨w.heap.size, 1, none⟩ = some (.slice a x.l.length cap) ∧ W.frozen? ⟨w.heap.size, 0, none⟩ = false ∧ W.frozen? ⟨w.heap.size, 1, none⟩ = false := ⟨cofr h.b0 0 _ rfl, cofr h.b0 1 _ rfl, fofr h.b0 0, fofr h.b0 1⟩
theorem R2.rc : W.cell? ⟨w.heap.size + 1, 0, none⟩ = some (.int .i64 0) ∧ W.cell? ⟨w.heap.size + 1, 1, none⟩ = some (.slice none 0 0) ∧ W.frozen? ⟨w.heap.size + 1, 0, none⟩ = false ∧ W.frozen? ⟨w.heap.size + 1, 1, none⟩ = false := ⟨cofr h.rs 0 _ rfl, cofr h.rs 1 _ rfl, fofr h.rs 0, fofr h.rs 1⟩
end
abbrev put2 (b : Nat) (x : Dk) (a : Option Addr) (cap : Nat) (W : World) : World := (W.setCell ⟨b, 0, none⟩ (.int .i64 x.now)).setCell ⟨b, 1, none⟩ (.slice a x.l.length cap)
/-- the answer's box is written -/
def Fin2 (w0 w : World) (x : Dk) (a : Option Addr) (cap : Nat) (L : List Rc) (W : World) : Prop := (W.cell? ⟨w.heap.size + 1, 0, none⟩ = some (.int .i64 x.now) ∧ W.cell? ⟨w.heap.size + 1, 1, none⟩ = some (.slice a x.l.length cap)) ∧ RfA w0 W a cap L x ∧ Below w.heap.size w W
theorem R2.fin {w0 w W : World} {x : Dk} {a : Option Addr} {cap : Nat} {L : List Rc} (h : R2 w x a cap W) (R : RfA w0 W a cap L x) : Fin2 w0 w x a cap L (put2 (w.heap.size + 1) x a cap W) := by
  have hk : Kept [w.heap.size + 1] W (put2 (w.heap.size + 1) x a cap W) := ((Kept.refl _ W).setCell (.inl (by simp)) _).setCell (.inl (by simp)) _
  have e := heap_setCell_same _ (w.heap.size + 1) 1 _ _ (.slice a x.l.length cap) (heap_setCell_same W (w.heap.size + 1) 0 _ _ (.int .i64 x.now) h.rs)
  obtain ⟨t1, t2, t3⟩ := nts2
  refine ⟨⟨cofr e 0 _ rfl, cofr e 1 _ rfl⟩, R.keep hk (fun b hb cs hc => ?_), h.below.trans (hk.below (by simp) h.below.size)⟩
  simp at hb; subst hb; exact typ_ne h.rs hc t1 rfl
/-- what comes back -/
def RetW (w0 : World) (x' : Dk) (v : Value) (er : Int) (w : World) (e : Ending) (w' : World) : Prop := ∃ a' cap' L', e = .returned (.tuple #[rfV x' a' cap', v, .int .i64 er]) ∧ RfA w0 w' a' cap' L' x' ∧ Below w.heap.size w w'
theorem Fin2.ret {w0 w W : World} {x : Dk} {a : Option Addr} {cap : Nat} {L : List Rc} (h : Fin2 w0 w x a cap L W) (v : Value) (er : Int) : RetW w0 x v er w (.returned (.tuple #[rfV x a cap, v, .int .i64 er])) W := ⟨a, cap, L, rfl, h.2⟩
theorem RfA.set {w0 w W : World} {x x' : Dk} {a a' : Option Addr} {cap cap' : Nat} {L : List Rc} (R : RfA w0 W a' cap' L x') (h : R2 w x a cap W) (i : Nat) (u : Value) : RfA w0 (W.setCell ⟨w.heap.size, i, none⟩ u) a' cap' L x' := by
  have hk : Kept [w.heap.size] W (W.setCell ⟨w.heap.size, i, none⟩ u) := (Kept.refl _ W).setCell (.inl (by simp)) _
  obtain ⟨t1, t2, t3⟩ := nts2
  refine R.keep hk (fun b hb cs hc => ?_)
  simp at hb; subst hb; exact typ_ne h.b0 hc t1 rfl
/-- one more row -/
structure R9 (w0 w : World) (x' : Dk) (a : Option Addr) (cap : Nat) (L : List Rc) (W : World) : Prop where
  bx : R2 w x' a cap W
  rf : RfA w0 W a cap L x'
theorem r9_of {w0 w W : World} {x x' : Dk} {a a' : Option Addr} {cap cap' n : Nat} {L : List Rc} (h : R2 w x a cap W) (R : RfA w0 W a' cap' L x') (hn : x'.l.length = n) :
    R2 w ⟨x.now, x'.l⟩ a' cap' (W.setCell ⟨w.heap.size, 1, none⟩ (.slice a' n cap')) ∧ R9 w0 w x' a' cap' L ((W.setCell ⟨w.heap.size, 1, none⟩ (.slice a' n cap')).setCell ⟨w.heap.size, 0, none⟩ (.int .i64 x'.now)) := by
  have h1 : R2 w ⟨x.now, x'.l⟩ a' cap' (W.setCell ⟨w.heap.size, 1, none⟩ (.slice a' n cap')) := h.put 1 _ (by rw [← hn]; rfl)
  have r1 := R.set h 1 (.slice a' n cap')
  exact ⟨h1, h1.put 0 _ rfl, r1.set h1 0 _⟩
theorem when_or (x : Dk) (now : Int) : whenE x now = 3 ∧ (now < x.now ∨ ¬ now < x.now ∧ 4611686018427387904 < now) ∨ whenE x now = 0 ∧ ¬ now < x.now ∧ ¬ 4611686018427387904 < now := by
  unfold whenE
  by_cases h1 : now < x.now
  · rw [if_pos (.inl h1)]; exact .inl ⟨rfl, .inl h1⟩
  · by_cases h2 : 4611686018427387904 < now
    · rw [if_pos (.inr h2)]; exact .inl ⟨rfl, .inr ⟨h1, h2⟩⟩
    · rw [if_neg (by omega)]; exact .inr ⟨rfl, h1, h2⟩
set_option maxRecDepth 100000 in
set_option maxHeartbeats 4000000 in
theorem rput_any {w0 w : World} {a : Option Addr} {cap : Nat} {L : List Rc} {x : Dk} (R : RfA w0 w a cap L x) (hn : x.l.length ≤ 1000000) (ra : Option Addr) (rc : Nat) (l : List Int) (hr : SlA .u8 w0 ra l.length rc l) (now : Int) :
    Calls Try.prog 24 #[rfV x a cap, .slice ra l.length rc, .int .i64 now] w (RetW w0 (putX x l now) (.int .i64 (putN x l.length now)) (putE x l.length now) w) := by
  have T := r2_new w x a cap
  obtain ⟨W, hW⟩ : ∃ W, W = (w.alloc (rfO x a cap)).alloc rfZ := ⟨_, rfl⟩
  rw [← hW] at T
  have RW := R.later T.below
  obtain ⟨c0, c1, f0, f1⟩ := T.cs
  obtain ⟨z0, z1, g0, g1⟩ := T.rc
  have HF := Lib.hid (T.fin RW)
  rcases when_or x now with ⟨e1, hc⟩ | ⟨e1, hc1, hc2⟩
  · have e : putE x l.length now = 3 := by unfold putE; rw [e1, if_pos (by decide)]
    have HX : Hid (putX x l now = x ∧ putN x l.length now = 0) := Lib.hid ⟨by unfold putX; rw [if_neg (by rw [e]; decide)], by unfold putN; rw [if_neg (by rw [e]; decide)]⟩
    rw [HX.out.1, HX.out.2, e]
    clear e e1 HX R RW T
    rcases hc with hc | ⟨hc, hc2⟩
    all_goals
      go_enter Try.func24, Try.ntmps24
      go_upto_region 1 with fail
      rw [← hW]
      clear hW
      go_wp2_with fail
      obtain ⟨y0, y1⟩ := HF.out.1
      exact bodyPost_ret (v := .tuple #[rfV x a cap, .int .i64 0, .int .i64 3]) (by simp [results, Try.results24, go_sem, y0, y1]) rfl (HF.out.ret _ _)
  by_cases hl : 2096 < l.length
  · have e : putE x l.length now = 9 := by unfold putE; rw [e1, if_neg (by decide), if_pos hl]
    have HX : Hid (putX x l now = x ∧ putN x l.length now = 0) := Lib.hid ⟨by unfold putX; rw [if_neg (by rw [e]; decide)], by unfold putN; rw [if_neg (by rw [e]; decide)]⟩
    rw [HX.out.1, HX.out.2, e]
    clear e e1 HX R RW T
    have hl2 : (2096 : Int) < (l.length : Int) := by omega
    go_enter Try.func24, Try.ntmps24
    go_upto_region 1 with fail
    rw [← hW]
    clear hW
    go_wp2_with fail
    obtain ⟨y0, y1⟩ := HF.out.1
    exact bodyPost_ret (v := .tuple #[rfV x a cap, .int .i64 0, .int .i64 9]) (by simp [results, Try.results24, go_sem, y0, y1]) rfl (HF.out.ret _ _)
  have hl2 : ¬ (2096 : Int) < (l.length : Int) := by omega
  have HLN := Lib.hid (rlen_any RW hn)
  rcases sendE_or x with ⟨s1, s2⟩ | ⟨s1, s2⟩
  case inr =>
    have e : putE x l.length now = 4 := by unfold putE; rw [e1, if_neg (by decide), if_neg hl, s1]
    have HX : Hid (putX x l now = x ∧ putN x l.length now = 0) := Lib.hid ⟨by unfold putX; rw [if_neg (by rw [e]; decide)], by unfold putN; rw [if_neg (by rw [e]; decide)]⟩
    rw [HX.out.1, HX.out.2, e]
    have s3 : (4096 : Int) ≤ ((fly x.l).length : Nat) := by omega
    have HT := Lib.hid (And.intro T RW)
    clear e e1 HX R RW T HF
    go_enter Try.func24, Try.ntmps24
    go_upto_region 1 with fail
    rw [← hW]
    clear hW
    go_upto_region 6 with (go_at_call 25; go_must (with_reducible refine HLN.out.mono ?_); rintro e w2 ⟨rfl, hb2⟩; clear c0 c1 f0 f1 z0 z1 g0 g1; obtain ⟨c0, c1, f0, f1⟩ := (HT.out.1.later hb2).cs; obtain ⟨z0, z1, g0, g1⟩ := (HT.out.1.later hb2).rc; have HF := Lib.hid ((HT.out.1.later hb2).fin (HT.out.2.later hb2)))
    go_wp2_with fail
    obtain ⟨y0, y1⟩ := HF.out.1
    exact bodyPost_ret (v := .tuple #[rfV x a cap, .int .i64 0, .int .i64 4]) (by simp [results, Try.results24, go_sem, y0, y1]) rfl (HF.out.ret _ _)
  case inl =>
    have e : putE x l.length now = 0 := by unfold putE; rw [e1, if_neg (by decide), if_neg hl, s1]
    have HX : Hid (putX x l now = ⟨now, x.l ++ [newC x l now]⟩ ∧ putN x l.length now = (x.l.length : Nat)) := Lib.hid ⟨by unfold putX; rw [if_pos e], by unfold putN; rw [if_pos e]⟩
    rw [HX.out.1, HX.out.2, e]
    have s3 : ¬ (4096 : Int) ≤ ((fly x.l).length : Nat) := by omega
    have HT := Lib.hid (And.intro T RW)
    have HRAW := Lib.hid hr
    obtain ⟨i0, hi, hz0, hz1, hz2⟩ := info_split info_copy
    clear e e1 HX R RW T HF
    go_enter Try.func24, Try.ntmps24
    go_upto_region 1 with fail
    rw [← hW]
    clear hW
    go_upto_region 7 with (go_at_call 25; go_must (with_reducible refine HLN.out.mono ?_); rintro e w2 ⟨rfl, hb2⟩; clear c0 c1 f0 f1 z0 z1 g0 g1)
    have hb3 := hb2.trans ((bal (w := w2) (.cells #[] 72)).mono hb2.size)
    have HT3 := Lib.hid (show R2 w x a cap (w2.alloc (.cells #[] 72)) ∧ RfA w0 (w2.alloc (.cells #[] 72)) a cap L x from ⟨HT.out.1.later hb3, HT.out.2.later hb3⟩)
    have c1 := HT3.out.1.cs.2.1
    have HSRC := Lib.hid (HT3.out.2.row.src Try.underlying29 (rfC_one _))
    have HSZ := Lib.hid (show w.heap.size + 1 < (w2.alloc (.cells #[] 72)).heap.size from lt_of_block HT3.out.1.rs)
    clear hb3 hb2 HT HLN
    go_upto_region 8 with (at_builtin; go_must (refine wpList_append_new _ rfl (.tmp 27) (.tmp 29) 29 29 rfl 72 i0 (.agg #[.int .i64 0, .int .i64 0, .int .i64 0, .int .i64 0, .slice none 0 0]) 5 56 Try.underlying29 hi hz0 hz1 (by decide) hz2 rfl w2.heap.size 0 rfl _ rfl x.l.length (rfC L) HSRC.out (by unfold maxLen; omega) (by omega) ?_); intro a1 cap1 w3 hrow hb4 hat)
    have HT4 := Lib.hid (show (R2 w x a cap w3 ∧ RfA w0 w3 a1 cap1 L x) ∧ ∀ b ∈ blk a1 cap1, w.heap.size + 1 < b from ⟨⟨HT3.out.1.later hb4, ⟨hrow, HT3.out.2.raws, HT3.out.2.eq⟩⟩, fun b hb => by have := hat b hb; have := HSZ.out; omega⟩)
    clear c1 hrow hb4 hat HSRC HT3 HSZ
    have hb5 := bal (w := w3) (.cells #[.int .i64 ((x.l.length : Nat) : Int), .int .i64 now, .int .i64 0, .int .i64 0, .slice ra l.length rc] 72)
    have HROW := Lib.hid (HT4.out.1.2.row.later hb5)
    have HT5 := Lib.hid (show R2 w x a cap (w3.alloc (.cells #[.int .i64 ((x.l.length : Nat) : Int), .int .i64 now, .int .i64 0, .int .i64 0, .slice ra l.length rc] 72)) from HT4.out.1.1.later hb5)
    have HSRC := Lib.hid (copy_src w3 ⟨newC x l now, ra, rc⟩)
    have HFI := Lib.hid (fun (wq : World) (hk : Kept (blk a1 cap1) (w3.alloc (.cells #[.int .i64 ((x.l.length : Nat) : Int), .int .i64 now, .int .i64 0, .int .i64 0, .slice ra l.length rc] 72)) wq) =>
      show R2 w x a cap wq ∧ (∀ q ∈ L ++ [⟨newC x l now, ra, rc⟩], SlA .u8 w0 q.a q.c.raw.length q.n q.c.raw) from ⟨HT5.out.kept hk HT4.out.2, fun q hq => by
        rcases List.mem_append.1 hq with q1 | q1
        · exact HT4.out.1.2.raws q q1
        · have : q = ⟨newC x l now, ra, rc⟩ := by simpa using q1
          subst this
          exact HRAW.out⟩)
    have HEQ := Lib.hid HT4.out.1.2.eq
    have hle1 := HROW.out.le
    have hmo1 := HROW.out.most
    unfold maxLen at hmo1
    clear HT4 HT5 hb5
    go_upto_region 9 with (at_builtin; go_must (refine wpList_append_slr _ rfl (.tmp 31) (.tmp 37) 29 29 rfl 72 i0 (.agg #[.int .i64 0, .int .i64 0, .int .i64 0, .int .i64 0, .slice none 0 0]) 5 56 Try.underlying29 hi hz0 hz1 (by decide) hz2 rfl a1 x.l.length cap1 (rfC L) rfl HROW.out _ rfl 1 (by decide) (rfc ⟨newC x l now, ra, rc⟩) HSRC.out (by unfold maxLen; omega) (by omega) ?_); intro a2 cap2 w5 hrow2 hk2 hat2; have HG := Lib.hid (And.intro hrow2 (HFI.out w5 hk2)); clear hrow2 hk2 hat2; obtain ⟨c0, c1, f0, f1⟩ := HG.out.2.1.cs)
    have HX5 : Hid ((x.l ++ [newC x l now]).length = x.l.length + 1) := Lib.hid (by simp)
    have HRF : Hid (RfA w0 w5 a2 cap2 (L ++ [⟨newC x l now, ra, rc⟩]) ⟨now, x.l ++ [newC x l now]⟩) := Lib.hid ⟨by dsimp only; rw [HX5.out, rfC_append]; simpa [rfC] using HG.out.1, HG.out.2.2, by rw [List.map_append, HEQ.out]; rfl⟩
    have H9 := Lib.hid (r9_of HG.out.2.1 HRF.out HX5.out)
    clear c0 c1 f0 f1 HFI HSRC HROW HEQ HG HRF
    generalize L ++ [⟨newC x l now, ra, rc⟩] = L' at *
    generalize hx' : (⟨now, x.l ++ [newC x l now]⟩ : Dk) = x' at *
    have HN' : Hid (x'.now = now) := Lib.hid (by rw [← hx'])
    have HL' : Hid (x'.l = x.l ++ [newC x l now]) := Lib.hid (by rw [← hx'])
    rw [HN'.out] at H9
    generalize w5.setCell ⟨w.heap.size, 1, none⟩ (.slice a2 (x.l.length + 1) cap2) = W9 at *
    obtain ⟨c0, c1, f0, f1⟩ := H9.out.1.cs
    go_upto_region 10 with fail
    clear c0 c1 f0 f1
    generalize W9.setCell ⟨w.heap.size, 0, none⟩ (.int .i64 now) = W10 at *
    obtain ⟨⟨c0, c1, f0, f1⟩, z0, z1, g0, g1⟩ := And.intro H9.out.2.bx.cs H9.out.2.bx.rc
    have HF := Lib.hid (H9.out.2.bx.fin H9.out.2.rf)
    clear H9 hx'
    go_wp2_with fail
    obtain ⟨y0, y1⟩ := HF.out.1
    exact bodyPost_ret (v := .tuple #[rfV x' a2 cap2, .int .i64 ((x.l.length : Nat) : Int), .int .i64 0]) (by simp [results, Try.results24, go_sem, y0, y1]) rfl (HF.out.ret _ _)
end Go.Proofs.Ytahegkbdefhlpaa.dc
/-!   Layer 25's reference: Double.
-/
namespace Go.Proofs.Ytahegkbdefhlpaa.dc
open Go.RowKit Go.Maps aid mem
attribute [local go_sem ↓] Go.wp_at_zero Go.wp_at_succ
set_option linter.unusedVariables false
set_option linter.unusedSimpArgs false

abbrev cpO (q : Rc) : Obj := .cells #[.int .i64 q.c.f, .int .i64 q.c.a, .int .i64 q.c.e, .int .i64 q.c.k, .slice q.a q.c.raw.length q.n] 72
set_option maxRecDepth 100000 in
set_option maxHeartbeats 4000000 in
theorem rdouble_any {w0 w : World} {a : Option Addr} {cap : Nat} {L : List Rc} {x : Dk} (R : RfA w0 w a cap L x) (hn : x.l.length ≤ 1000000) (id now : Int) :
    Calls Try.prog 22 #[rfV x a cap, .int .i64 id, .int .i64 now] w (RetW w0 (dblX x id now) (.int .i64 (dblN x id now)) (dblE x id now) w) := by
  have T := r2_new w x a cap
  obtain ⟨W, hW⟩ : ∃ W, W = (w.alloc (rfO x a cap)).alloc rfZ := ⟨_, rfl⟩
  rw [← hW] at T
  have RW := R.later T.below
  obtain ⟨c0, c1, f0, f1⟩ := T.cs
  obtain ⟨z0, z1, g0, g1⟩ := T.rc
  have HF := Lib.hid (T.fin RW)
  rcases when_or x now with ⟨e1, hc⟩ | ⟨e1, hc1, hc2⟩
  · have e : dblE x id now = 3 := by unfold dblE whichE; rw [e1]; rfl
    have HX : Hid (dblX x id now = x ∧ dblN x id now = 0) := Lib.hid ⟨by unfold dblX; rw [if_neg (by rw [e]; decide)], by unfold dblN; rw [if_neg (by rw [e]; decide)]⟩
    rw [HX.out.1, HX.out.2, e]
    clear e e1 HX R RW T
    rcases hc with hc | ⟨hc, hc2⟩
    all_goals
      go_enter Try.func22, Try.ntmps22
      go_upto_region 1 with fail
      rw [← hW]
      clear hW
      go_wp2_with fail
      obtain ⟨y0, y1⟩ := HF.out.1
      exact bodyPost_ret (v := .tuple #[rfV x a cap, .int .i64 0, .int .i64 3]) (by simp [results, Try.results22, go_sem, y0, y1]) rfl (HF.out.ret _ _)
  have HIS := Lib.hid (ris_any RW hn id)
  by_cases hf : isF x id
  case neg =>
    have ew : whichE x id now = 10 := by unfold whichE; rw [e1, if_neg (by decide), if_neg hf]
    have e : dblE x id now = 10 := by unfold dblE; rw [ew]; rfl
    have HX : Hid (dblX x id now = x ∧ dblN x id now = 0) := Lib.hid ⟨by unfold dblX; rw [if_neg (by rw [e]; decide)], by unfold dblN; rw [if_neg (by rw [e]; decide)]⟩
    rw [HX.out.1, HX.out.2, e]
    rw [decide_eq_false hf] at HIS
    have HT := Lib.hid (And.intro T RW)
    clear e e1 ew HX R RW T HF hf
    go_enter Try.func22, Try.ntmps22
    go_upto_region 1 with fail
    rw [← hW]
    clear hW
    go_upto_region 4 with (go_at_call 37; go_must (with_reducible refine HIS.out.mono ?_); rintro e w2 ⟨rfl, hb2⟩; clear c0 c1 f0 f1 z0 z1 g0 g1; obtain ⟨c0, c1, f0, f1⟩ := (HT.out.1.later hb2).cs; obtain ⟨z0, z1, g0, g1⟩ := (HT.out.1.later hb2).rc; have HF := Lib.hid ((HT.out.1.later hb2).fin (HT.out.2.later hb2)))
    go_wp2_with fail
    obtain ⟨y0, y1⟩ := HF.out.1
    exact bodyPost_ret (v := .tuple #[rfV x a cap, .int .i64 0, .int .i64 10]) (by simp [results, Try.results22, go_sem, y0, y1]) rfl (HF.out.ret _ _)
  have ew : whichE x id now = 0 := by unfold whichE; rw [e1, if_neg (by decide), if_pos hf]
  rw [decide_eq_true hf] at HIS
  obtain ⟨q1, q2, q3⟩ := isF_lt hf
  obtain ⟨i, rfl⟩ : ∃ i : Nat, id = (i : Int) := ⟨id.toNat, by omega⟩
  rw [Int.toNat_natCast] at q1 q3
  have hRW := RW
  have HLN := Lib.hid (fun w2 (hb : Below W.heap.size W w2) => rlen_any (hRW.later hb) hn)
  rcases sendE_or x with ⟨s1, s2⟩ | ⟨s1, s2⟩
  case inr =>
    have e : dblE x (i : Int) now = 4 := by unfold dblE; rw [ew, if_neg (by decide), s1]
    have HX : Hid (dblX x (i : Int) now = x ∧ dblN x (i : Int) now = 0) := Lib.hid ⟨by unfold dblX; rw [if_neg (by rw [e]; decide)], by unfold dblN; rw [if_neg (by rw [e]; decide)]⟩
    rw [HX.out.1, HX.out.2, e]
    have s3 : (4096 : Int) ≤ ((fly x.l).length : Nat) := by omega
    have HT := Lib.hid (And.intro T RW)
    clear e e1 HX R RW T HF hf hRW ew q3
    go_enter Try.func22, Try.ntmps22
    go_upto_region 1 with fail
    rw [← hW]
    clear hW
    go_upto_region 6 with (first
      | (go_at_call 37; (with_reducible refine HIS.out.mono ?_); rintro e w2 ⟨rfl, hb2⟩; clear c0 c1 f0 f1 z0 z1 g0 g1; obtain ⟨c0, c1, f0, f1⟩ := (HT.out.1.later hb2).cs)
      | (go_at_call 25; go_must (with_reducible refine (HLN.out _ hb2).mono ?_); rintro e w3 ⟨rfl, hb3⟩; clear c0 c1 f0 f1; have hbb := hb2.trans (hb3.mono hb2.size); obtain ⟨c0, c1, f0, f1⟩ := (HT.out.1.later hbb).cs; obtain ⟨z0, z1, g0, g1⟩ := (HT.out.1.later hbb).rc; have HF := Lib.hid ((HT.out.1.later hbb).fin (HT.out.2.later hbb))))
    go_wp2_with fail
    obtain ⟨y0, y1⟩ := HF.out.1
    exact bodyPost_ret (v := .tuple #[rfV x a cap, .int .i64 0, .int .i64 4]) (by simp [results, Try.results22, go_sem, y0, y1]) rfl (HF.out.ret _ _)
  case inl =>
    have e : dblE x (i : Int) now = 0 := by unfold dblE; rw [ew, if_neg (by decide), s1]
    have HX : Hid (dblX x (i : Int) now = ⟨now, x.l ++ [cpAt x.l i]⟩ ∧ dblN x (i : Int) now = (x.l.length : Nat)) := Lib.hid ⟨by unfold dblX; rw [if_pos e, Int.toNat_natCast], by unfold dblN; rw [if_pos e]⟩
    rw [HX.out.1, HX.out.2, e]
    have s3 : ¬ (4096 : Int) ≤ ((fly x.l).length : Nat) := by omega
    have HT := Lib.hid (And.intro T RW)
    obtain ⟨i0, hi, hz0, hz1, hz2⟩ := info_split info_copy
    clear e e1 HX R RW T HF hf hRW ew q3 q2
    go_enter Try.func22, Try.ntmps22
    go_upto_region 1 with fail
    rw [← hW]
    clear hW
    go_upto_region 7 with (first
      | (go_at_call 37; (with_reducible refine HIS.out.mono ?_); rintro e w1 ⟨rfl, hb2⟩; clear c0 c1 f0 f1 z0 z1 g0 g1; obtain ⟨c0, c1, f0, f1⟩ := (HT.out.1.later hb2).cs)
      | (go_at_call 25; go_must (with_reducible refine (HLN.out _ hb2).mono ?_); rintro e w2 ⟨rfl, hb3⟩; clear c0 c1 f0 f1; have hbb := hb2.trans (hb3.mono hb2.size)))
    have hb4 := hbb.trans ((bal (w := w2) (.cells #[] 72)).mono hbb.size)
    have HT3 := Lib.hid (show R2 w x a cap (w2.alloc (.cells #[] 72)) ∧ RfA w0 (w2.alloc (.cells #[] 72)) a cap L x from ⟨HT.out.1.later hb4, HT.out.2.later hb4⟩)
    have c1 := HT3.out.1.cs.2.1
    have HSRC := Lib.hid (HT3.out.2.row.src Try.underlying29 (rfC_one _))
    have HSZ := Lib.hid (show w.heap.size + 1 < (w2.alloc (.cells #[] 72)).heap.size from lt_of_block HT3.out.1.rs)
    clear hb4 hbb hb3 hb2 HT HLN HIS
    go_upto_region 8 with (at_builtin; go_must (refine wpList_append_new _ rfl (.tmp 28) (.tmp 30) 29 29 rfl 72 i0 (.agg #[.int .i64 0, .int .i64 0, .int .i64 0, .int .i64 0, .slice none 0 0]) 5 56 Try.underlying29 hi hz0 hz1 (by decide) hz2 rfl w2.heap.size 0 rfl _ rfl x.l.length (rfC L) HSRC.out (by unfold maxLen; omega) (by omega) ?_); intro a1 cap1 w3 hrow hb4 hat)
    have HT4 := Lib.hid (show (R2 w x a cap w3 ∧ RfA w0 w3 a1 cap1 L x) ∧ ∀ b ∈ blk a1 cap1, w.heap.size + 1 < b from ⟨⟨HT3.out.1.later hb4, ⟨hrow, HT3.out.2.raws, HT3.out.2.eq⟩⟩, fun b hb => by have := hat b hb; have := HSZ.out; omega⟩)
    clear c1 hrow hb4 hat HSRC HT3 HSZ
    obtain ⟨g, off, hg, hlc, hcm, k0, k1, k2, k3, k4⟩ := HT4.out.1.2.cells q1
    obtain ⟨hq1, hq2⟩ := HT4.out.1.2.at q1
    rw [hq1] at k0 k1 k2 k3 k4
    have HQ := Lib.hid (And.intro hq2 (HT4.out.1.2.raws _ hq2))
    have HCE := Lib.hid hq1
    rw [hq1]
    clear hq1 hq2
    generalize rcAt L i = q at *
    unfold maxLen at hcm
    subst hg
    have hb5 := bal (w := w3) (cpO q)
    have HROW := Lib.hid (HT4.out.1.2.row.later hb5)
    have HT5 := Lib.hid (show R2 w x a cap (w3.alloc (cpO q)) from HT4.out.1.1.later hb5)
    have HSRC := Lib.hid (copy_src w3 q)
    have HFI := Lib.hid (fun (wq : World) (hk : Kept (blk (some ⟨g, off, none⟩) cap1) (w3.alloc (cpO q)) wq) =>
      show R2 w x a cap wq ∧ (∀ q' ∈ L ++ [q], SlA .u8 w0 q'.a q'.c.raw.length q'.n q'.c.raw) from ⟨HT5.out.kept hk HT4.out.2, fun q' hq' => by
        rcases List.mem_append.1 hq' with q1 | q1
        · exact HT4.out.1.2.raws q' q1
        · have : q' = q := by simpa using q1
          subst this
          exact HQ.out.2⟩)
    have HEQ := Lib.hid HT4.out.1.2.eq
    clear HT4 HT5 hb5 HQ
    go_upto_region 9 with (at_builtin; go_must (refine wpList_append_slr _ rfl (.tmp 32) (.tmp 37) 29 29 rfl 72 i0 (.agg #[.int .i64 0, .int .i64 0, .int .i64 0, .int .i64 0, .slice none 0 0]) 5 56 Try.underlying29 hi hz0 hz1 (by decide) hz2 rfl (some ⟨g, off, none⟩) x.l.length cap1 (rfC L) rfl HROW.out _ rfl 1 (by decide) (rfc q) HSRC.out (by unfold maxLen; omega) (by omega) ?_); intro a2 cap2 w5 hrow2 hk2 hat2; have HG := Lib.hid (And.intro hrow2 (HFI.out w5 hk2)); clear hrow2 hk2 hat2; obtain ⟨c0, c1, f0, f1⟩ := HG.out.2.1.cs)
    have HX5 : Hid ((x.l ++ [q.c]).length = x.l.length + 1) := Lib.hid (by simp)
    have HRF : Hid (RfA w0 w5 a2 cap2 (L ++ [q]) ⟨now, x.l ++ [q.c]⟩) := Lib.hid ⟨by dsimp only; rw [HX5.out, rfC_append]; simpa [rfC] using HG.out.1, HG.out.2.2, by rw [List.map_append, HEQ.out]; rfl⟩
    have H9 := Lib.hid (r9_of HG.out.2.1 HRF.out HX5.out)
    clear c0 c1 f0 f1 HFI HSRC HROW HEQ HG HRF k0 k1 k2 k3 k4
    generalize L ++ [q] = L' at *
    generalize hx' : (⟨now, x.l ++ [q.c]⟩ : Dk) = x' at *
    have HN' : Hid (x'.now = now) := Lib.hid (by rw [← hx'])
    rw [HN'.out] at H9
    generalize w5.setCell ⟨w.heap.size, 1, none⟩ (.slice a2 (x.l.length + 1) cap2) = W9 at *
    obtain ⟨c0, c1, f0, f1⟩ := H9.out.1.cs
    go_upto_region 10 with fail
    clear c0 c1 f0 f1
    generalize W9.setCell ⟨w.heap.size, 0, none⟩ (.int .i64 now) = W10 at *
    obtain ⟨⟨c0, c1, f0, f1⟩, z0, z1, g0, g1⟩ := And.intro H9.out.2.bx.cs H9.out.2.bx.rc
    have HF := Lib.hid (H9.out.2.bx.fin H9.out.2.rf)
    have HXX := Lib.hid hx'
    clear H9 hx'
    go_wp2_with fail
    obtain ⟨y0, y1⟩ := HF.out.1
    exact bodyPost_ret (v := .tuple #[rfV x' a2 cap2, .int .i64 ((x.l.length : Nat) : Int), .int .i64 0]) (by simp [results, Try.results22, go_sem, y0, y1]) rfl (by rw [HCE.out, HXX.out]; exact HF.out.ret _ _)
end Go.Proofs.Ytahegkbdefhlpaa.dc
/-!   Layer 25's reference: End.
-/
namespace Go.Proofs.Ytahegkbdefhlpaa.dc
open Go.RowKit Go.Maps aid mem
attribute [local go_sem ↓] Go.wp_at_zero Go.wp_at_succ
set_option linter.unusedVariables false
set_option linter.unusedSimpArgs false

theorem RfA.ended {w0 w : World} {g off cap : Nat} {L : List Rc} {x : Dk} (R : RfA w0 w (some ⟨g, off, none⟩) cap L x) {i : Nat} (hi : i < x.l.length) (t k : Int) :
    RfA w0 ((w.setCell ⟨g, off + i * 5 + 2, none⟩ (.int .i64 t)).setCell ⟨g, off + i * 5 + 3, none⟩ (.int .i64 k)) (some ⟨g, off, none⟩) cap (L.set i ⟨endC (rcAt L i).c t k, (rcAt L i).a, (rcAt L i).n⟩) (endL x i t k) ∧
    Kept [g] w ((w.setCell ⟨g, off + i * 5 + 2, none⟩ (.int .i64 t)).setCell ⟨g, off + i * 5 + 3, none⟩ (.int .i64 k)) ∧ g ∈ blk (some ⟨g, off, none⟩) cap ∧
    (∀ v, (w.setCell ⟨g, off + i * 5 + 2, none⟩ v).cell? ⟨g, off + i * 5 + 3, none⟩ = some (.int .i64 (cpAt x.l i).k)) ∧ w.frozen? ⟨g, off + i * 5 + 2, none⟩ = false ∧ w.frozen? ⟨g, off + i * 5 + 3, none⟩ = false := by
  have hk : Kept [g] w ((w.setCell ⟨g, off + i * 5 + 2, none⟩ (.int .i64 t)).setCell ⟨g, off + i * 5 + 3, none⟩ (.int .i64 k)) := ((Kept.refl [g] w).setCell (.inl (by simp)) _).setCell (.inl (by simp)) _
  have hle := R.row.le
  have hl := R.len
  obtain ⟨g', off', cur, hx, hg, h1, h2⟩ := R.row.rest (by omega)
  injection hx with hx
  injection hx with hx1 hx2
  subst hx1 hx2
  obtain ⟨g2, o2, he, _, _, _, _, _, k3, _⟩ := R.cells hi
  injection he with he
  injection he with he1 he2
  subst he1 he2
  have hmem : g ∈ blk (some ⟨g, off, none⟩) cap := by rw [blk_some _ _ _ (by omega)]; simp
  refine ⟨⟨?_, fun q hq => ?_, ?_⟩, hk, hmem, fun v => (set_other (fun e => by injection e; omega)).trans k3, fofr hg _, fofr hg _⟩
  · have e : (endL x i t k).l.length = x.l.length := by unfold endL; simp
    rw [e]
    refine ⟨by rw [rfC_len, List.length_set]; omega, hle, R.row.most, fun h0 => ?_⟩
    refine ⟨g, off, _, rfl, heap_setCell_same _ g _ _ _ _ (heap_setCell_same w g _ _ _ _ hg), by simpa using h1, fun j hj => ?_⟩
    rw [← rfC_set L i (by omega) t k]
    rw [Array.getElem?_setIfInBounds, Array.getElem?_setIfInBounds, List.getElem?_set, List.getElem?_set]
    have hl2 := rfC_len L
    by_cases e3 : i * 5 + 3 = j
    · subst e3
      rw [if_pos (by omega), if_pos rfl, if_pos (by simp; omega), if_pos (by simp; omega)]
    · rw [if_neg (by omega), if_neg e3]
      by_cases e2 : i * 5 + 2 = j
      · subst e2
        rw [if_pos (by omega), if_pos rfl, if_pos (by omega), if_pos (by omega)]
      · rw [if_neg (by omega), if_neg e2]
        exact h2 j hj
  · rcases List.mem_or_eq_of_mem_set hq with q1 | q1
    · exact R.raws q q1
    · rw [q1]
      have := R.raws _ (R.at hi).2
      exact this
  · unfold endL
    rw [List.map_set, R.eq, (R.at hi).1]
theorem Fin2.drew {w0 w W : World} {x : Dk} {a : Option Addr} {cap : Nat} {L : List Rc} (h : Fin2 w0 w x a cap L W) : Fin2 w0 w x a cap L W.drew := ⟨h.1, h.2.1.later (Below.refl _ _).drew, h.2.2.drew⟩
def RetE (w0 : World) (x : Dk) (id now k : Int) (w : World) (e : Ending) (w' : World) : Prop := ∃ a' cap' L' ra rc, e = .returned (.tuple #[rfV (endX x id now k) a' cap', .slice ra (takL x id now).length rc, .int .i64 (whichE x id now)]) ∧ SlA .u8 w0 ra (takL x id now).length rc (takL x id now) ∧ RfA w0 w' a' cap' L' (endX x id now k) ∧ Below w.heap.size w w'
theorem Fin2.nope {w0 w W : World} {x : Dk} {a : Option Addr} {cap : Nat} {L : List Rc} (h : Fin2 w0 w x a cap L W) (id now k er : Int) (e : whichE x id now = er) (h0 : er ≠ 0) : RetE w0 x id now k w (.returned (.tuple #[rfV x a cap, .slice none 0 0, .int .i64 er])) W := by
  have e1 : endX x id now k = x := by unfold endX; rw [if_neg (by rw [e]; exact h0)]
  have e2 : takL x id now = [] := by unfold takL; rw [if_neg (by rw [e]; exact h0)]
  unfold RetE
  rw [e1, e2, e]
  exact ⟨a, cap, L, none, 0, rfl, SlA.of_r (SlR.nil _ 5 _), h.2⟩
set_option maxRecDepth 100000 in
set_option maxHeartbeats 4000000 in
theorem rend_any {w0 w : World} {a : Option Addr} {cap : Nat} {L : List Rc} {x : Dk} (R : RfA w0 w a cap L x) (hn : x.l.length ≤ 1000000) (id now k : Int) :
    Calls Try.prog 23 #[rfV x a cap, .int .i64 id, .int .i64 now, .int .i64 k] w (RetE w0 x id now k w) := by
  have T := r2_new w x a cap
  obtain ⟨W, hW⟩ : ∃ W, W = (w.alloc (rfO x a cap)).alloc rfZ := ⟨_, rfl⟩
  rw [← hW] at T
  have RW := R.later T.below
  obtain ⟨c0, c1, f0, f1⟩ := T.cs
  obtain ⟨z0, z1, g0, g1⟩ := T.rc
  have HF := Lib.hid (T.fin RW)
  rcases when_or x now with ⟨e1, hc⟩ | ⟨e1, hc1, hc2⟩
  · have e : Hid (whichE x id now = 3) := Lib.hid (by unfold whichE; rw [e1]; rfl)
    clear e1 R RW T
    rcases hc with hc | ⟨hc, hc2⟩
    all_goals
      go_enter Try.func23, Try.ntmps23
      go_upto_region 1 with fail
      rw [← hW]
      clear hW
      go_wp2_with fail
      obtain ⟨y0, y1⟩ := HF.out.1
      exact bodyPost_ret (v := .tuple #[rfV x a cap, .slice none 0 0, .int .i64 3]) (by simp [results, Try.results23, go_sem, y0, y1]) rfl (HF.out.nope _ _ _ _ e.out (by decide))
  have HIS := Lib.hid (ris_any RW hn id)
  by_cases hf : isF x id
  case neg =>
    have e : Hid (whichE x id now = 10) := Lib.hid (by unfold whichE; rw [e1, if_neg (by decide), if_neg hf])
    rw [decide_eq_false hf] at HIS
    have HT := Lib.hid (And.intro T RW)
    clear e1 R RW T HF hf
    go_enter Try.func23, Try.ntmps23
    go_upto_region 1 with fail
    rw [← hW]
    clear hW
    go_upto_region 4 with (go_at_call 37; go_must (with_reducible refine HIS.out.mono ?_); rintro e w2 ⟨rfl, hb2⟩; clear c0 c1 f0 f1 z0 z1 g0 g1; obtain ⟨c0, c1, f0, f1⟩ := (HT.out.1.later hb2).cs; obtain ⟨z0, z1, g0, g1⟩ := (HT.out.1.later hb2).rc; have HF := Lib.hid ((HT.out.1.later hb2).fin (HT.out.2.later hb2)))
    go_wp2_with fail
    obtain ⟨y0, y1⟩ := HF.out.1
    exact bodyPost_ret (v := .tuple #[rfV x a cap, .slice none 0 0, .int .i64 10]) (by simp [results, Try.results23, go_sem, y0, y1]) rfl (HF.out.nope _ _ _ _ e.out (by decide))
  have ew : whichE x id now = 0 := by unfold whichE; rw [e1, if_neg (by decide), if_pos hf]
  rw [decide_eq_true hf] at HIS
  obtain ⟨q1, q2, q3⟩ := isF_lt hf
  obtain ⟨i, rfl⟩ : ∃ i : Nat, id = (i : Int) := ⟨id.toNat, by omega⟩
  rw [Int.toNat_natCast] at q1 q3
  have HE : Hid (endX x (i : Int) now k = endL x i now k ∧ takL x (i : Int) now = (cpAt x.l i).raw ∧ whichE x (i : Int) now = 0) := Lib.hid ⟨by unfold endX; rw [if_pos ew, Int.toNat_natCast], by unfold takL; rw [if_pos ew, Int.toNat_natCast], ew⟩
  have HT := Lib.hid (And.intro T RW)
  obtain ⟨i0, hi, hz0, hz1, hz2⟩ := info_split info_copy
  clear e1 R RW T HF hf ew q3 q2
  go_enter Try.func23, Try.ntmps23
  go_upto_region 1 with fail
  rw [← hW]
  clear hW
  go_upto_region 5 with (go_at_call 37; go_must (with_reducible refine HIS.out.mono ?_); rintro e w2 ⟨rfl, hbb⟩; clear c0 c1 f0 f1 z0 z1 g0 g1; obtain ⟨c0, c1, f0, f1⟩ := (HT.out.1.later hbb).cs)
  have hb4 := hbb.trans ((bal (w := w2) (.cells #[] 72)).mono hbb.size)
  have HT3 := Lib.hid (show R2 w x a cap (w2.alloc (.cells #[] 72)) ∧ RfA w0 (w2.alloc (.cells #[] 72)) a cap L x from ⟨HT.out.1.later hb4, HT.out.2.later hb4⟩)
  clear c0 c1 f0 f1
  have c1 := HT3.out.1.cs.2.1
  have HSRC := Lib.hid (HT3.out.2.row.src Try.underlying29 (rfC_one _))
  have HSZ := Lib.hid (show w.heap.size + 1 < (w2.alloc (.cells #[] 72)).heap.size from lt_of_block HT3.out.1.rs)
  clear hb4 hbb HT HIS
  go_upto_region 6 with (at_builtin; go_must (refine wpList_append_new _ rfl (.tmp 26) (.tmp 28) 29 29 rfl 72 i0 (.agg #[.int .i64 0, .int .i64 0, .int .i64 0, .int .i64 0, .slice none 0 0]) 5 56 Try.underlying29 hi hz0 hz1 (by decide) hz2 rfl w2.heap.size 0 rfl _ rfl x.l.length (rfC L) HSRC.out (by unfold maxLen; omega) (by omega) ?_); intro a1 cap1 w3 hrow hb4 hat)
  have HT4 := Lib.hid (show (R2 w x a cap w3 ∧ RfA w0 w3 a1 cap1 L x) ∧ ∀ b ∈ blk a1 cap1, w.heap.size + 1 < b from ⟨⟨HT3.out.1.later hb4, ⟨hrow, HT3.out.2.raws, HT3.out.2.eq⟩⟩, fun b hb => by have := hat b hb; have := HSZ.out; omega⟩)
  clear c1 hrow hb4 hat HSRC HT3 HSZ
  obtain ⟨g, off, hg, hlc, hcm, k0, k1, k2, k3, k4⟩ := HT4.out.1.2.cells q1
  unfold maxLen at hcm
  subst hg
  obtain ⟨r1, r2, r3, r4, r5, r6⟩ := HT4.out.1.2.ended q1 now k
  have H7 := Lib.hid (And.intro (HT4.out.1.1.kept r2 (fun b hb => by simp at hb; subst hb; exact HT4.out.2 _ r3)) r1)
  clear HT4 k0 k1 r1 r2 r3 k4
  go_upto_region 8 with fail
  clear k2 k3 r4 r5 r6
  generalize ((w3.setCell ⟨g, off + i * 5 + 2, none⟩ (.int .i64 now)).setCell ⟨g, off + i * 5 + 3, none⟩ (.int .i64 k)) = W7 at *
  have H9 := Lib.hid (r9_of H7.out.1 H7.out.2 (n := x.l.length) (by unfold endL; simp))
  obtain ⟨c0, c1, f0, f1⟩ := H7.out.1.cs
  clear H7
  generalize hL' : L.set i ⟨endC (rcAt L i).c now k, (rcAt L i).a, (rcAt L i).n⟩ = L' at *
  generalize hx' : endL x i now k = x' at *
  have HN' : Hid (x'.now = now) := Lib.hid (by rw [← hx']; rfl)
  have HC' : Hid (i < x'.l.length ∧ (cpAt x'.l i).raw = (cpAt x.l i).raw) := Lib.hid (by rw [← hx']; unfold endL; dsimp only; rw [List.length_set, cpAt_set q1, if_pos rfl]; exact ⟨q1, rfl⟩)
  rw [HN'.out] at H9
  go_upto_region 9 with fail
  clear c0 c1 f0 f1
  generalize W7.setCell ⟨w.heap.size, 1, none⟩ (.slice (some ⟨g, off, none⟩) x.l.length cap1) = W9 at *
  obtain ⟨c0, c1, f0, f1⟩ := H9.out.1.cs
  go_upto_region 10 with fail
  clear c0 c1 f0 f1
  generalize W9.setCell ⟨w.heap.size, 0, none⟩ (.int .i64 now) = W10 at *
  obtain ⟨⟨c0, c1, f0, f1⟩, z0, z1, g0, g1⟩ := And.intro H9.out.2.bx.cs H9.out.2.bx.rc
  have HF := Lib.hid (H9.out.2.bx.fin H9.out.2.rf)
  obtain ⟨g', off', hg, hlc', hcm', k0, k1, k2, k3, k4⟩ := H9.out.2.rf.cells HC'.out.1
  injection hg with hg
  injection hg with hg1 hg2
  subst hg1 hg2
  have HRAW := Lib.hid (H9.out.2.rf.raw HC'.out.1)
  rw [HC'.out.2] at HRAW
  rw [HC'.out.2] at k4
  clear H9 hx' k0 k1 k2 k3 hcm'
  go_wp2_with fail
  go_region
  all_goals
    go_wp2_with fail
    obtain ⟨y0, y1⟩ := HF.out.1
    exact bodyPost_ret (v := .tuple #[rfV x' (some ⟨g, off, none⟩) cap1, .slice (rcAt L' i).a (cpAt x.l i).raw.length (rcAt L' i).n, .int .i64 0]) (by simp [results, Try.results23, go_sem, y0, y1]) rfl (by
      unfold RetE
      rw [HE.out.1, HE.out.2.1, HE.out.2.2]
      first
        | exact ⟨_, _, L', _, _, rfl, HRAW.out, HF.out.2⟩
        | exact ⟨_, _, L', _, _, rfl, HRAW.out, HF.out.drew.2⟩)
end Go.Proofs.Ytahegkbdefhlpaa.dc
/-!   DuctOnce: the walk.
-/
namespace Go.Proofs.Ytahegkbdefhlpaa.dc
open Go.RowKit Go.Shelf Go.Maps aid mem
attribute [local go_sem ↓] Go.wp_at_zero Go.wp_at_succ
set_option linter.unusedVariables false
set_option linter.unusedSimpArgs false

section
variable {w W W' : World} {B : Nat} {h : Hm} {x x' : Dk} {v : Value} {e : Ending} (S : DS w B h x W)
include S
theorem DS.wroteH (r : RetS v B h x' W e W') : e = .returned v ∧ (∃ h', DS w B h' x' W') ∧ Kept (blks B h) W W' := by
  have hs := S.wrote r
  obtain ⟨rfl, h', d, k, b⟩ := r
  exact ⟨rfl, hs.2, k⟩
theorem ds_dropH (hn : x.l.length ≤ 1000000) (id now : Int) (hi : -9223372036854775808 ≤ id ∧ id ≤ 9223372036854775807) :
    Calls Try.prog 14 #[.pointer (some ⟨B, 0, none⟩), .int .i64 id, .int .i64 now] W fun e w' => e = .returned (.int .i64 (whichE x id now)) ∧ (∃ h', DS w B h' (endX x id now 2) w') ∧ Kept (blks B h) W w' :=
  (drop_any S.d hn id now hi).mono fun e w' q => S.wroteH q
theorem ds_takeH (hn : x.l.length ≤ 1000000) (id now : Int) (hi : -9223372036854775808 ≤ id ∧ id ≤ 9223372036854775807) (hr : ∀ i ∈ fly x.l, (cpAt x.l i).raw.length ≤ 1000000) :
    Calls Try.prog 15 #[.pointer (some ⟨B, 0, none⟩), .int .i64 id, .int .i64 now] W fun e w' => ∃ a cap, e = .returned (.tuple #[.slice a (takL x id now).length cap, .int .i64 (whichE x id now)]) ∧ BRow w' a (takL x id now).length cap (takL x id now) ∧ (∃ h', DS w B h' (endX x id now 1) w') ∧ Kept (blks B h) W w' :=
  (take_any S.d hn id now hi hr).mono fun e w' ⟨a, cap, q1, q2⟩ => ⟨a, cap, (S.wroteH q2).1, q1, (S.wroteH q2).2⟩
end
abbrev ftO (f a e k : Int) : Obj := .cells #[.int .i64 f, .int .i64 a, .int .i64 e, .int .i64 k] 41
theorem ft_cs {W : World} {b : Nat} {f a e k : Int} (h : W.heap[b]? = some (.cells #[.int .i64 f, .int .i64 a, .int .i64 e, .int .i64 k] 41 (0, 0))) :
    W.cell? ⟨b, 0, none⟩ = some (.int .i64 f) ∧ W.cell? ⟨b, 1, none⟩ = some (.int .i64 a) ∧ W.cell? ⟨b, 2, none⟩ = some (.int .i64 e) ∧ W.cell? ⟨b, 3, none⟩ = some (.int .i64 k) := ⟨cofr h 0 _ rfl, cofr h 1 _ rfl, cofr h 2 _ rfl, cofr h 3 _ rfl⟩
set_option maxRecDepth 100000 in
set_option maxHeartbeats 8000000 in
theorem walk_DuctOnce (w : World) (la : Option Addr) (ln lc : Nat) (L : List RwV) (hL : RwA w la ln lc L) (pa : Option Addr) (pn pc : Nat) (l : List OpV) (hl : OpA w pa pn pc l) :
    Calls Try.prog 4 #[.slice la ln lc, .slice pa pn pc] w fun x w' => x = .returned (.bool true) ∧ Below w.heap.size w w' := by
  have h1 := hL.le
  have h2 := hL.most
  have h3 := hl.le
  have h4 := hl.most
  unfold maxLen at h2 h4
  have HLC := Lib.hid hL.cells
  have HOC := Lib.hid hl.cells
  clear hL hl
  have HN := Lib.hid (fun W (hb : Below w.heap.size w W) => ds_new (w0 := w) hb)
  have HLN := Lib.hid (fun (B : Nat) (h : Hm) (x : Dk) W (S : DS w B h x W) => ds_len S)
  have HTO := Lib.hid (fun (B : Nat) (h : Hm) (x : Dk) (n : Nat) (hn : x.l.length = n) W (S : DS w B h x W) => show Calls Try.prog 18 #[.pointer (some ⟨B, 0, none⟩)] W fun e w' => e = .returned (.int .i64 (n : Nat)) ∧ DS w B h x w' from by
    have := ds_total S
    rwa [hn] at this)
  have P0 : Pu L 0 ⟨0, []⟩ := ⟨Nat.le_refl _, fun j hj => by simp at hj, by decide⟩
  have hb0 := Below.refl w.heap.size w
  go_enter Try.func4, Try.ntmps4
  go_wp2_with (first
    | (go_at_call 7; (with_reducible refine (known_b hb0).mono ?_); clear hb0; rintro e w1 ⟨rfl, hb0⟩)
    | (go_at_call 8; (with_reducible refine (HN.out _ hb0).mono ?_); rintro e w2 ⟨B, h, rfl, S⟩))
  go_loopw [6, 7] (fun s6 s7 wr => ∃ (i : Nat) (h : Hm) (x : Dk), s6 = .int .i64 (x.l.length : Nat) ∧ s7 = .int .i64 i ∧ i ≤ ln ∧ i ≤ 60 ∧ Pu L i x ∧ DS w B h x wr) (fun _ i _ => 60 - (intOf i).toNat)
  case atStart => exact ⟨0, h, _, rfl, rfl, by omega, by omega, P0, S⟩
  case round =>
    obtain ⟨i, h, x, rfl, rfl, hi1, hi2, P, S⟩ := hrel
    clear P0
    by_cases hlt : i < ln ∧ i < 60
    · obtain ⟨hlt, hlt6⟩ := hlt
      obtain ⟨b, off, rfl, hc⟩ := HLC.out (by omega)
      obtain ⟨c0, hsl⟩ := hc i hlt
      clear hc
      have cl := (S.below.cell (p := ⟨b, off + i, none⟩) (World.block_lt_of_cell? w _ c0)).trans c0
      have hsl2 := hsl.later S.below
      have hlen := hsl2.len
      have hxl : x.l.length ≤ 1000000 := by have := P.le; omega
      by_cases hbig : 2096 < (L.getD i default).n
      · obtain ⟨e1, e2⟩ := P.long hlt6 hbig
        have HP := Lib.hid (show Calls Try.prog 12 #[.pointer (some ⟨B, 0, none⟩), .slice (L.getD i default).a (L.getD i default).n (L.getD i default).c, .int .i64 (i : Nat)] wr fun e w' => e = .returned (.tuple #[.int .i64 0, .int .i64 9]) ∧ ∃ h', DS w B h' x w' from by
          have := ds_put S hxl hsl2 (i : Int)
          rw [e1, show putN x (L.getD i default).n i = 0 from by unfold putN; rw [if_neg (by rw [e1]; decide)], show putX x (L.getD i default).l i = x from by unfold putX; rw [hlen, e1, if_neg (by decide)]] at this
          exact this)
        generalize L.getD i default = u at *
        clear S hsl hsl2 e1 hlen c0
        go_wp2_with (go_at_call 12; go_must (with_reducible refine HP.out.mono ?_); rintro e w3 ⟨rfl, h', S⟩)
        go_roundw
        case measure => simp [intOf]; omega
        case rel => exact ⟨i + 1, h', x, rfl, by first | rfl | simp, by omega, by omega, e2, S⟩
      · obtain ⟨e1, e2, e3⟩ := P.put (L := L) hlt6 (by rw [hlen]; exact hbig)
        have HP := Lib.hid (show Calls Try.prog 12 #[.pointer (some ⟨B, 0, none⟩), .slice (L.getD i default).a (L.getD i default).n (L.getD i default).c, .int .i64 (i : Nat)] wr fun e w' => e = .returned (.tuple #[.int .i64 (x.l.length : Nat), .int .i64 0]) ∧ ∃ h', DS w B h' (putX x (L.getD i default).l i) w' from by
          have := ds_put S hxl hsl2 (i : Int)
          rw [← hlen] at this ⊢
          rw [e1, show putN x (L.getD i default).l.length i = (x.l.length : Nat) from by unfold putN; rw [if_pos e1]] at this
          exact this)
        generalize putX x (L.getD i default).l i = y at *
        generalize L.getD i default = u at *
        have HR := Lib.hid (And.intro e2 e3)
        clear S hsl hsl2 e1 hlen c0 e2 e3
        go_wp2_with (go_at_call 12; go_must (with_reducible refine HP.out.mono ?_); rintro e w3 ⟨rfl, h', S⟩)
        go_roundw
        case measure => simp [intOf]; omega
        case rel => exact ⟨i + 1, h', y, by rw [HR.out.2]; rfl, by first | rfl | simp, by omega, by omega, HR.out.1, S⟩
    · have hM : Hid (i ≤ ln ∧ i ≤ 60) := Lib.hid ⟨hi1, hi2⟩
      have Q0 := P.qn hi2
      obtain ⟨n, hn⟩ : ∃ n, n = x.l.length := ⟨_, rfl⟩
      rw [← hn] at Q0 ⊢
      have hlt' : ¬ (i < ln ∧ i < 60) := hlt
      clear hn P
      generalize hMM : i = M at *
      clear hMM
      go_wp2_with fail
      all_goals
        go_loopw [10, 11, 12] (fun s10 s11 s12 wq => ∃ (j came dropped : Nat) (h : Hm) (y : Dk), s10 = .int .i64 came ∧ s11 = .int .i64 dropped ∧ s12 = .int .i64 j ∧ j ≤ pn ∧ j ≤ 200 ∧ Qn L M n came dropped j y ∧ DS w B h y wq) (fun _ _ i _ => 200 - (intOf i).toNat)
        case atStart => exact ⟨0, 0, 0, h, x, rfl, rfl, rfl, by omega, by omega, Q0, S⟩
        case round =>
          clear S Q0
          obtain ⟨j, came, dropped, h, y, rfl, rfl, rfl, hj1, hj2, Q, S⟩ := hrel
          have hyl : y.l.length ≤ 1000000 := by have := Q.len; have := Q.n60; omega
          by_cases hlj : j < pn ∧ j < 200
          · obtain ⟨hlj, hlj2⟩ := hlj
            obtain ⟨bo, oo, rfl, hc⟩ := HOC.out (by omega)
            obtain ⟨c0, c1, _, _, hk0, hid⟩ := hc j hlj
            have hid := hid.1
            clear hc
            generalize l.getD j default = u at *
            obtain ⟨k0, k1⟩ := hk0
            have HCC := Lib.hid (fun W (hb : Below w.heap.size w W) => show W.cell? ⟨bo, oo + j * 4, none⟩ = some (.int .u8 u.kind) ∧ W.cell? ⟨bo, oo + j * 4 + 1, none⟩ = some (.int .i64 u.id) from ⟨(hb.cell (World.block_lt_of_cell? w _ c0)).trans c0, (hb.cell (World.block_lt_of_cell? w _ c1)).trans c1⟩)
            clear c0 c1
            obtain ⟨c0, c1⟩ := HCC.out _ S.below
            have HFT := Lib.hid (show Calls Try.prog 13 #[.pointer (some ⟨B, 0, none⟩), .int .i64 u.id] wr fun e w' => e = .returned (.tuple #[.agg #[.int .i64 (ftI y u.id).f, .int .i64 (ftI y u.id).a, .int .i64 (ftI y u.id).e, .int .i64 (ftI y u.id).k], .bool (decide (fdI y u.id))]) ∧ DS w B h y w' from ds_fate S hyl u.id)
            have hwr : IntKind.i64.wrap (100 + (j : Int)) = 100 + (j : Int) := IntWalk.i64_in _ (by omega)
            have hwj : IntKind.i64.wrap ((j : Int) + 1) = ((j + 1 : Nat) : Int) := by rw [IntWalk.i64_in _ (by omega)]; omega
            have hwc : IntKind.i64.wrap ((came : Int) + 1) = ((came + 1 : Nat) : Int) := by have := Q.cnt; have := Q.n60; rw [IntWalk.i64_in _ (by omega)]; omega
            have hwd : IntKind.i64.wrap ((dropped : Int) + 1) = ((dropped + 1 : Nat) : Int) := by have := Q.cnt; have := Q.n60; rw [IntWalk.i64_in _ (by omega)]; omega
            by_cases hev : u.kind % 2 = 0
            · by_cases hF : isF y u.id
              · have HDR := Lib.hid (fun W (S : DS w B h y W) => show Calls Try.prog 14 #[.pointer (some ⟨B, 0, none⟩), .int .i64 u.id, .int .i64 (100 + (j : Int))] W fun e w' => e = .returned (.int .i64 0) ∧ (∃ h', DS w B h' (endX y u.id (100 + (j : Int)) 2) w') ∧ Kept (blks B h) W w' from by
                  have := ds_dropH S hyl u.id (100 + (j : Int)) hid
                  rwa [Q.which hlj2, if_pos hF] at this)
                have HQ := Lib.hid (Q.drop hlj2 hF)
                generalize ftI y u.id = ft at *
                generalize decide (fdI y u.id) = fd at *
                generalize endX y u.id (100 + (j : Int)) 2 = y2 at *
                clear S Q hF
                go_wp2_with (first
                  | (go_at_call 13; go_must (with_reducible refine HFT.out.mono ?_); rintro e w3 ⟨rfl, S⟩; replace S := S.later (bal (w := w3) (ftO ft.f ft.a ft.e ft.k)); obtain ⟨c0, c1⟩ := HCC.out _ S.below)
                  | (go_at_call 14; go_must (with_reducible refine (HDR.out _ S).mono ?_); clear S; rintro e w4 ⟨rfl, ⟨h', S⟩, _⟩))
                go_roundw
                case measure => simp [intOf]; omega
                case rel => exact ⟨j + 1, came, dropped + 1, h', y2, rfl, by first | rfl | simp, by first | rfl | simp, by omega, by omega, HQ.out, S⟩
              · have HDR := Lib.hid (fun W (S : DS w B h y W) => show Calls Try.prog 14 #[.pointer (some ⟨B, 0, none⟩), .int .i64 u.id, .int .i64 (100 + (j : Int))] W fun e w' => e = .returned (.int .i64 10) ∧ (∃ h', DS w B h' y w') ∧ Kept (blks B h) W w' from by
                  have := ds_dropH S hyl u.id (100 + (j : Int)) hid
                  rwa [(Q.none hlj2 hF 2).1, (Q.none hlj2 hF 2).2.1] at this)
                have HQ := Lib.hid Q.next
                generalize ftI y u.id = ft at *
                generalize decide (fdI y u.id) = fd at *
                clear S Q hF
                go_wp2_with (first
                  | (go_at_call 13; go_must (with_reducible refine HFT.out.mono ?_); rintro e w3 ⟨rfl, S⟩; replace S := S.later (bal (w := w3) (ftO ft.f ft.a ft.e ft.k)); obtain ⟨c0, c1⟩ := HCC.out _ S.below)
                  | (go_at_call 14; go_must (with_reducible refine (HDR.out _ S).mono ?_); clear S; rintro e w4 ⟨rfl, ⟨h', S⟩, _⟩))
                go_roundw
                case measure => simp [intOf]; omega
                case rel => exact ⟨j + 1, came, dropped, h', y, rfl, rfl, by first | rfl | simp, by omega, by omega, HQ.out, S⟩
            · have hod : u.kind % 2 = 1 := by omega
              by_cases hF : isF y u.id
              · obtain ⟨q1, q2, q3⟩ := isF_lt hF
                obtain ⟨m, hm, hma, hmr, hml⟩ := Q.all u.id.toNat (by have := Q.len; omega)
                have hfd : fdI y u.id := ((isF_iff y u.id).1 hF).1
                have hft : ftI y u.id = cpAt y.l u.id.toNat := by unfold ftI; rw [if_pos hfd]
                rw [hft, q3, hma, decide_eq_true hfd] at HFT
                have HRW := Lib.hid (fun i (hi : i ∈ fly y.l) => show (cpAt y.l i).raw.length ≤ 1000000 from by
                  obtain ⟨_, _, _, _, h5⟩ := Q.all i (by have := (mem_fly.1 hi).1; have := Q.len; omega)
                  omega)
                have HTK := Lib.hid (fun W (S : DS w B h y W) => show Calls Try.prog 15 #[.pointer (some ⟨B, 0, none⟩), .int .i64 u.id, .int .i64 (100 + (j : Int))] W fun e w' => ∃ a cap, e = .returned (.tuple #[.slice a (L.getD m default).l.length cap, .int .i64 0]) ∧ BRow w' a (L.getD m default).l.length cap (L.getD m default).l ∧ (∃ h', DS w B h' (endX y u.id (100 + (j : Int)) 1) w') ∧ Kept (blks B h) W w' from by
                  have := ds_takeH S hyl u.id (100 + (j : Int)) hid HRW.out
                  rw [show takL y u.id (100 + (j : Int)) = (L.getD m default).l from by unfold takL; rw [Q.which hlj2, if_pos hF, if_pos rfl, hmr], Q.which hlj2, if_pos hF] at this
                  exact this)
                have HQ := Lib.hid (Q.came hlj2 hF)
                have HF2 := Lib.hid (fun (h : Hm) W (S : DS w B h (endX y u.id (100 + (j : Int)) 1) W) => show Calls Try.prog 13 #[.pointer (some ⟨B, 0, none⟩), .int .i64 u.id] W fun e w' => e = .returned (.tuple #[.agg #[.int .i64 (cpAt y.l u.id.toNat).f, .int .i64 (m : Nat), .int .i64 (100 + (j : Int)), .int .i64 1], .bool true]) ∧ DS w B h (endX y u.id (100 + (j : Int)) 1) w' from by
                  obtain ⟨x1, x2, x3, x4, x5⟩ := Q.ended hlj2 hF 1 (by decide)
                  have hfd2 : fdI (endX y u.id (100 + (j : Int)) 1) u.id := ⟨hfd.1, by rw [x1, x2]; have := hfd.2; have := Q.len; omega⟩
                  have hft2 : ftI (endX y u.id (100 + (j : Int)) 1) u.id = endC (cpAt y.l u.id.toNat) (100 + (j : Int)) 1 := by unfold ftI; rw [if_pos hfd2, x1]; unfold endL; rw [cpAt_set q1, if_pos rfl]
                  have := ds_fate S (by rw [x1, x2]; have := Q.n60; omega) u.id
                  rw [hft2, decide_eq_true hfd2] at this
                  unfold endC ftV at this
                  dsimp only at this
                  rw [hma] at this
                  exact this)
                have hmM : m < ln ∧ m < 60 := by have := hM.out; omega
                obtain ⟨hm1, hm2⟩ := hmM
                obtain ⟨b, off, rfl, hcl⟩ := HLC.out (by omega)
                obtain ⟨d0, hsl⟩ := hcl m hm1
                clear hcl
                have hll := hsl.len
                have HD := Lib.hid (fun W (hb : Below w.heap.size w W) => show W.cell? ⟨b, off + m, none⟩ = some (.slice (L.getD m default).a (L.getD m default).n (L.getD m default).c) from (hb.cell (World.block_lt_of_cell? w _ d0)).trans d0)
                have HSM := Lib.hid (fun W (hb : Below w.heap.size w W) a' cap' (hr : BRow W a' (L.getD m default).n cap' (L.getD m default).l) => oc.same_true a' (L.getD m default).a (L.getD m default).n cap' (L.getD m default).c (L.getD m default).l W (SlA.of_r hr) (hsl.later hb))
                unfold oc.RetQ at HSM
                rw [hll] at HTK
                clear hsl d0 hll
                generalize cpAt y.l u.id.toNat = ft at *
                generalize endX y u.id (100 + (j : Int)) 1 = y2 at *
                generalize L.getD m default = v at *
                clear S Q hF hfd hft q1 q2 q3 hma hmr hml HRW
                go_wp2_with (first
                  | (go_at_call 13; first
                    | ((with_reducible refine HFT.out.mono ?_); clear HFT; rintro e w3 ⟨rfl, S⟩; have hnb : w3.heap.size ∉ blks B h := fun e => absurd (S.d.lt _ e) (Nat.lt_irrefl _); have hbx := heap_alloc_new w3 (ftO ft.f m ft.e 0); replace S := S.later (bal (w := w3) (ftO ft.f m ft.e 0)); obtain ⟨c0, c1⟩ := HCC.out _ S.below)
                    | ((with_reducible refine (HF2.out h' _ S).mono ?_); rintro e w6 ⟨rfl, S⟩; replace S := S.later (bal (w := w6) (ftO ft.f m (100 + (j : Int)) 1))))
                  | (go_at_call 15; go_must (with_reducible refine (HTK.out _ S).mono ?_); clear S; rintro e w4 ⟨a', cap', rfl, hr4, ⟨h', S⟩, hk4⟩; have hbx4 := hk4.heap hnb hbx; obtain ⟨g0, g1, g2, g3⟩ := ft_cs hbx4; have d0 := HD.out _ S.below)
                  | (go_at_call 16; go_must (with_reducible refine (HSM.out _ S.below a' cap' hr4).mono ?_); rintro e w5 ⟨rfl, q5, rfl⟩; replace S := S.later (W' := w4.drewN q5) ⟨rfl, rfl, rfl, Nat.le_refl _, fun _ _ => rfl⟩))
                go_roundw
                case measure => simp [intOf]; omega
                case rel => exact ⟨j + 1, came + 1, dropped, _, y2, by first | rfl | simp, rfl, by first | rfl | simp, by omega, by omega, HQ.out, S⟩
              · by_cases hfd : fdI y u.id
                · have hk0 : ¬ (ftI y u.id).k = 0 := fun e => hF ((isF_iff y u.id).2 ⟨hfd, e⟩)
                  have hk1 : decide ((ftI y u.id).k = 0) = false := by simpa using hk0
                  rw [decide_eq_true hfd] at HFT
                  have HTK := Lib.hid (fun W (S : DS w B h y W) => show Calls Try.prog 15 #[.pointer (some ⟨B, 0, none⟩), .int .i64 u.id, .int .i64 (100 + (j : Int))] W fun e w' => ∃ a cap, e = .returned (.tuple #[.slice a 0 cap, .int .i64 10]) ∧ (∃ h', DS w B h' y w') ∧ Kept (blks B h) W w' from by
                    have := ds_takeH S hyl u.id (100 + (j : Int)) hid (fun i hi => by
                      obtain ⟨_, _, _, _, h5⟩ := Q.all i (by have := (mem_fly.1 hi).1; have := Q.len; omega)
                      omega)
                    rw [(Q.none hlj2 hF 1).2.2, (Q.none hlj2 hF 1).2.1, (Q.none hlj2 hF 1).1] at this
                    exact this.mono fun e w' ⟨a, cap, r1, r2, r3, r4⟩ => ⟨a, cap, r1, r3, r4⟩)
                  have HQ := Lib.hid Q.next
                  generalize ftI y u.id = ft at *
                  clear S Q hF hfd
                  go_wp2_with (first
                    | (go_at_call 13; go_must (with_reducible refine HFT.out.mono ?_); rintro e w3 ⟨rfl, S⟩; have hnb : w3.heap.size ∉ blks B h := fun e => absurd (S.d.lt _ e) (Nat.lt_irrefl _); have hbx := heap_alloc_new w3 (ftO ft.f ft.a ft.e ft.k); replace S := S.later (bal (w := w3) (ftO ft.f ft.a ft.e ft.k)); obtain ⟨c0, c1⟩ := HCC.out _ S.below)
                    | (go_at_call 15; go_must (with_reducible refine (HTK.out _ S).mono ?_); clear S; rintro e w4 ⟨a', cap', rfl, ⟨h', S⟩, hk4⟩; have hbx4 := hk4.heap hnb hbx; obtain ⟨g0, g1, g2, g3⟩ := ft_cs hbx4))
                  go_roundw
                  case measure => simp [intOf]; omega
                  case rel => exact ⟨j + 1, came, dropped, h', y, rfl, rfl, by first | rfl | simp, by omega, by omega, HQ.out, S⟩
                · rw [decide_eq_false hfd] at HFT
                  have HTK := Lib.hid (fun W (S : DS w B h y W) => show Calls Try.prog 15 #[.pointer (some ⟨B, 0, none⟩), .int .i64 u.id, .int .i64 (100 + (j : Int))] W fun e w' => ∃ a cap, e = .returned (.tuple #[.slice a 0 cap, .int .i64 10]) ∧ (∃ h', DS w B h' y w') ∧ Kept (blks B h) W w' from by
                    have := ds_takeH S hyl u.id (100 + (j : Int)) hid (fun i hi => by
                      obtain ⟨_, _, _, _, h5⟩ := Q.all i (by have := (mem_fly.1 hi).1; have := Q.len; omega)
                      omega)
                    rw [(Q.none hlj2 hF 1).2.2, (Q.none hlj2 hF 1).2.1, (Q.none hlj2 hF 1).1] at this
                    exact this.mono fun e w' ⟨a, cap, r1, r2, r3, r4⟩ => ⟨a, cap, r1, r3, r4⟩)
                  have HQ := Lib.hid Q.next
                  generalize ftI y u.id = ft at *
                  clear S Q hF hfd
                  go_wp2_with (first
                    | (go_at_call 13; go_must (with_reducible refine HFT.out.mono ?_); rintro e w3 ⟨rfl, S⟩; have hnb : w3.heap.size ∉ blks B h := fun e => absurd (S.d.lt _ e) (Nat.lt_irrefl _); have hbx := heap_alloc_new w3 (ftO ft.f ft.a ft.e ft.k); replace S := S.later (bal (w := w3) (ftO ft.f ft.a ft.e ft.k)); obtain ⟨c0, c1⟩ := HCC.out _ S.below)
                    | (go_at_call 15; go_must (with_reducible refine (HTK.out _ S).mono ?_); clear S; rintro e w4 ⟨a', cap', rfl, ⟨h', S⟩, hk4⟩; have hbx4 := hk4.heap hnb hbx; obtain ⟨g0, g1, g2, g3⟩ := ft_cs hbx4))
                  go_roundw
                  case measure => simp [intOf]; omega
                  case rel => exact ⟨j + 1, came, dropped, h', y, rfl, rfl, by first | rfl | simp, by omega, by omega, HQ.out, S⟩
          · have hcn := Q.cnt
            have hn6 := Q.n60
            obtain ⟨z, hz⟩ : ∃ z : Int, z = (((fly y.l).length : Nat) : Int) := ⟨_, rfl⟩
            obtain ⟨z1, hz1⟩ : ∃ z1 : Int, z1 = z + came := ⟨_, rfl⟩
            have hw1 : IntKind.i64.wrap (z + (came : Int)) = z1 := by rw [IntWalk.i64_in _ (by omega), hz1]
            have hw2 : IntKind.i64.wrap (z1 + (dropped : Int)) = (n : Int) := by rw [IntWalk.i64_in _ (by omega)]; omega
            have HL2 := Lib.hid (show Calls Try.prog 17 #[.pointer (some ⟨B, 0, none⟩)] wr fun e w' => e = .returned (.int .i64 z) ∧ DS w B h y w' from by
              rw [hz]
              exact HLN.out B h y _ S)
            have HT2 := Lib.hid (fun W (S : DS w B h y W) => HTO.out B h y n Q.len W S)
            clear hz hz1 hcn hn6 Q S hyl
            go_wp2_with (first
              | (go_at_call 17; go_must (with_reducible refine HL2.out.mono ?_); rintro e w3 ⟨rfl, S⟩)
              | (go_at_call 18; go_must (with_reducible refine (HT2.out _ S).mono ?_); clear S; rintro e w4 ⟨rfl, S⟩)
              | (go_at_call 7; go_must (with_reducible refine (known_b S.below).mono ?_); clear S; rintro e w5 ⟨rfl, hb9⟩))
            all_goals
              go_ret
              exact ⟨rfl, hb9⟩
end Go.Proofs.Ytahegkbdefhlpaa.dc
/-!   Layer 25's law: does.
-/
namespace Go.Proofs.Ytahegkbdefhlpaa.dc
open Go.RowKit Go.Shelf Go.Maps aid mem
attribute [local go_sem ↓] Go.wp_at_zero Go.wp_at_succ
set_option linter.unusedVariables false
set_option linter.unusedSimpArgs false

def opX (x : Dk) (u : OpV) (now : Int) : Dk := if u.kind % 5 = 2 then dblX x u.id now else if u.kind % 5 = 3 then endX x u.id now 1 else if u.kind % 5 = 4 then endX x u.id now 2 else putX x u.b.2.2.2 now
abbrev opVal (u : OpV) : Value := .agg #[.int .u8 u.kind, .int .i64 u.id, .slice u.b.1 u.b.2.1 u.b.2.2.1, .int .i64 u.dt]
abbrev opO (u : OpV) : Obj := .cells #[.int .u8 u.kind, .int .i64 u.id, .slice u.b.1 u.b.2.1 u.b.2.2.1, .int .i64 u.dt] 25
/-- how large it may be -/
structure JOk (n : Nat) (x : Dk) : Prop where
  len : x.l.length ≤ n
  raw : ∀ i, i < x.l.length → (cpAt x.l i).raw.length ≤ 2096
theorem JOk.more {n : Nat} {x : Dk} (h : JOk n x) {c : Cp} (hc : c.raw.length ≤ 2096) (now : Int) : JOk (n + 1) ⟨now, x.l ++ [c]⟩ := by
  refine ⟨by have := h.len; simp; omega, fun i hi => ?_⟩
  dsimp only at hi ⊢
  by_cases e : i < x.l.length
  · rw [cpAt_lt e]; exact h.raw i e
  · have : i = x.l.length := by simp at hi; omega
    subst this
    rw [cpAt_new]; exact hc
theorem JOk.end {n : Nat} {x : Dk} (h : JOk n x) (id now k : Int) : JOk (n + 1) (endX x id now k) := by
  unfold endX
  split
  · rename_i e
    refine ⟨by have := h.len; unfold endL; simp; omega, fun i hi => ?_⟩
    unfold endL at hi ⊢
    dsimp only at hi ⊢
    rw [List.length_set] at hi
    have hid : id.toNat < x.l.length := by
      rcases whichE_or x id now with ⟨_, _, q⟩ | ⟨q, _⟩ | ⟨q, _⟩
      · exact (isF_lt q).1
      · rw [e] at q; simp at q
      · rw [e] at q; simp at q
    rw [cpAt_set hid]
    split
    · rename_i e2; subst e2; exact h.raw _ hi
    · exact h.raw i hi
  · exact ⟨by have := h.len; omega, h.raw⟩
theorem JOk.op {n : Nat} {x : Dk} (h : JOk n x) (u : OpV) (now : Int) : JOk (n + 1) (opX x u now) := by
  have h0 : JOk (n + 1) x := ⟨by have := h.len; omega, h.raw⟩
  unfold opX
  split
  · unfold dblX
    split
    · rename_i e
      have hid : u.id.toNat < x.l.length := by
        rcases whichE_or x u.id now with ⟨_, _, q⟩ | ⟨q, _⟩ | ⟨q, _⟩
        · exact (isF_lt q).1
        · unfold dblE at e; rw [q] at e; simp at e
        · unfold dblE at e; rw [q] at e; simp at e
      exact h.more (h.raw _ hid) now
    · exact h0
  · split
    · exact h.end _ _ _
    · split
      · exact h.end _ _ _
      · unfold putX
        split
        · rename_i e
          refine h.more ?_ now
          show u.b.2.2.2.length ≤ 2096
          unfold putE at e
          split at e
          · simp at e
          · split at e
            · simp at e
            · omega
        · exact h0
/-- the boxes -/
structure DZ (W : World) (B : Nat) (h0 : Hm) (x : Dk) (a : Option Addr) (cap : Nat) (u : OpV) (V : World) : Prop where
  b0 : V.heap[W.heap.size]? = some (rfO x a cap)
  bo : V.heap[W.heap.size + 1]? = some (opO u)
  rs : V.heap[W.heap.size + 1 + 1]? = some rfZ
  kp : Kept (blks B h0) W V
section
variable {w0 W V V' : World} {B : Nat} {h0 h : Hm} {x x0 : Dk} {a : Option Addr} {cap : Nat} {u : OpV} (Z : DZ W B h0 x a cap u V)
include Z
theorem DZ.later (hb : Below V.heap.size V V') : DZ W B h0 x a cap u V' :=
  ⟨(hb.block _ (lt_of_block Z.b0)).trans Z.b0, (hb.block _ (lt_of_block Z.bo)).trans Z.bo, (hb.block _ (lt_of_block Z.rs)).trans Z.rs, Z.kp.trans (Kept.of_below hb (Nat.le_refl _) (blks B h0)) (fun x hx => .inl hx)⟩
theorem DZ.wrote (hB : ∀ b ∈ blks B h0, b < W.heap.size) (hk : Kept (blks B h0) V V') : DZ W B h0 x a cap u V' :=
  ⟨hk.heap (fun e => by have := hB _ e; omega) Z.b0, hk.heap (fun e => by have := hB _ e; omega) Z.bo, hk.heap (fun e => by have := hB _ e; omega) Z.rs, Z.kp.trans hk (fun x hx => .inl hx)⟩
theorem DZ.cs : V.cell? ⟨W.heap.size, 0, none⟩ = some (.int .i64 x.now) ∧ V.cell? ⟨W.heap.size, 1, none⟩ = some (.slice a x.l.length cap) ∧ V.cell? ⟨W.heap.size + 1, 0, none⟩ = some (.int .u8 u.kind) ∧ V.cell? ⟨W.heap.size + 1, 1, none⟩ = some (.int .i64 u.id) ∧ V.cell? ⟨W.heap.size + 1, 2, none⟩ = some (.slice u.b.1 u.b.2.1 u.b.2.2.1) ∧
    V.cell? ⟨W.heap.size + 1 + 1, 0, none⟩ = some (.int .i64 0) ∧ V.cell? ⟨W.heap.size + 1 + 1, 1, none⟩ = some (.slice none 0 0) ∧ V.frozen? ⟨W.heap.size + 1 + 1, 0, none⟩ = false ∧ V.frozen? ⟨W.heap.size + 1 + 1, 1, none⟩ = false :=
  ⟨cofr Z.b0 0 _ rfl, cofr Z.b0 1 _ rfl, cofr Z.bo 0 _ rfl, cofr Z.bo 1 _ rfl, cofr Z.bo 2 _ rfl, cofr Z.rs 0 _ rfl, cofr Z.rs 1 _ rfl, fofr Z.rs 0, fofr Z.rs 1⟩
end
theorem dz_new (W : World) (B : Nat) (h0 : Hm) (x : Dk) (a : Option Addr) (cap : Nat) (u : OpV) : DZ W B h0 x a cap u (((W.alloc (rfO x a cap)).alloc (opO u)).alloc rfZ) := by
  have b1 := bal (w := W) (rfO x a cap)
  have y1 := heap_alloc_new W (rfO x a cap)
  have z1 : (W.alloc (rfO x a cap)).heap.size = W.heap.size + 1 := by simp
  generalize W.alloc (rfO x a cap) = w1 at *
  have b2 := bal (w := w1) (opO u)
  have y2 := heap_alloc_new w1 (opO u)
  have z2 : (w1.alloc (opO u)).heap.size = W.heap.size + 1 + 1 := by simp [z1]
  rw [z1] at y2
  have y12 := (b2.block _ (lt_of_block y1)).trans y1
  have bb := b1.trans (b2.mono b1.size)
  generalize w1.alloc (opO u) = w2 at *
  have b3 := bal (w := w2) rfZ
  have y3 := heap_alloc_new w2 rfZ
  rw [z2] at y3
  exact ⟨(b3.block _ (lt_of_block y12)).trans y12, (b3.block _ (lt_of_block y2)).trans y2, y3, Kept.of_below (bb.trans (b3.mono bb.size)) (Nat.le_refl _) _⟩
/-- the reference's rows stay when a duct is changed -/
theorem RfA.wrote {w0 W W' : World} {a : Option Addr} {cap : Nat} {L : List Rc} {x y : Dk} {B : Nat} {h : Hm} (R : RfA w0 W a cap L x) (S : DAt W B h y) (hk : Kept (blks B h) W W') : RfA w0 W' a cap L x :=
  R.keep hk (fun b hb cs hc => by
    obtain ⟨⟨n, D, d, _⟩, _⟩ := S
    exact d.typ hc (by decide) (by decide) (by decide) hb)
theorem boxd_new (V : World) (x : Dk) (a : Option Addr) (cap : Nat) : (put2 V.heap.size x a cap (V.alloc rfZ)).heap[V.heap.size]? = some (rfO x a cap) ∧ Below V.heap.size V (put2 V.heap.size x a cap (V.alloc rfZ)) := by
  have y := heap_alloc_new V rfZ
  have b := bal (w := V) rfZ
  generalize V.alloc rfZ = w1 at *
  exact ⟨heap_setCell_same _ V.heap.size 1 _ _ (.slice a x.l.length cap) (heap_setCell_same w1 V.heap.size 0 _ _ (.int .i64 x.now) y), (b.setCell (p := ⟨V.heap.size, 0, none⟩) (Nat.le_refl _) _).setCell (p := ⟨V.heap.size, 1, none⟩) (Nat.le_refl _) _⟩
/-- what is left -/
def RetD (w0 W : World) (B : Nat) (h0 : Hm) (y : Dk) (e : Ending) (w' : World) : Prop := ∃ h' a' cap' L', e = .returned (.tuple #[rfV y a' cap', .bool true]) ∧ DS w0 B h' y w' ∧ RfA w0 w' a' cap' L' y ∧ Kept (blks B h0) W w'
/-- the end: the answer's box is written -/
def FinD (w0 W : World) (B : Nat) (h0 : Hm) (y : Dk) (a : Option Addr) (cap : Nat) (V : World) : Prop := (V.cell? ⟨W.heap.size + 1 + 1, 0, none⟩ = some (.int .i64 y.now) ∧ V.cell? ⟨W.heap.size + 1 + 1, 1, none⟩ = some (.slice a y.l.length cap)) ∧ ∃ h' L', DS w0 B h' y V ∧ RfA w0 V a cap L' y ∧ Kept (blks B h0) W V
theorem DZ.fin {w0 W V : World} {B : Nat} {h0 h : Hm} {x y : Dk} {a a' : Option Addr} {cap cap' : Nat} {u : OpV} {L : List Rc} (Z : DZ W B h0 x a cap u V) (S : DS w0 B h y V) (R : RfA w0 V a' cap' L y) (hw : w0.heap.size ≤ W.heap.size) : FinD w0 W B h0 y a' cap' (put2 (W.heap.size + 1 + 1) y a' cap' V) := by
  have hk : Kept [W.heap.size + 1 + 1] V (put2 (W.heap.size + 1 + 1) y a' cap' V) := ((Kept.refl _ V).setCell (.inl (by simp)) _).setCell (.inl (by simp)) _
  have e := heap_setCell_same _ (W.heap.size + 1 + 1) 1 _ _ (.slice a' y.l.length cap') (heap_setCell_same V (W.heap.size + 1 + 1) 0 _ _ (.int .i64 y.now) Z.rs)
  obtain ⟨t1, t2, t3⟩ := nts2
  have hnb : W.heap.size + 1 + 1 ∉ blks B h := by
    obtain ⟨⟨n, D, d, _⟩, _⟩ := S.d
    exact d.typ Z.rs (by decide) (by decide) (by decide)
  refine ⟨⟨cofr e 0 _ rfl, cofr e 1 _ rfl⟩, h, L, ⟨S.d.keep hk (fun b hb q => by simp at q; subst q; exact hnb hb) (fun b hb cs hc => by simp at hb; subst hb; exact typ_ne Z.rs hc t2 rfl), S.below.trans (hk.below (by simp; omega) S.below.size), S.own⟩, R.keep hk (fun b hb cs hc => by simp at hb; subst hb; exact typ_ne Z.rs hc t1 rfl), Z.kp.trans hk (fun b hb => by simp at hb; exact .inr (by omega))⟩
theorem FinD.ret {w0 W V : World} {B : Nat} {h0 : Hm} {y : Dk} {a : Option Addr} {cap : Nat} (h : FinD w0 W B h0 y a cap V) : RetD w0 W B h0 y (.returned (.tuple #[rfV y a cap, .bool true])) V := by
  obtain ⟨_, h', L', q⟩ := h
  exact ⟨h', a, cap, L', rfl, q⟩
theorem FinD.drew {w0 W V : World} {B : Nat} {h0 : Hm} {y : Dk} {a : Option Addr} {cap : Nat} (h : FinD w0 W B h0 y a cap V) : FinD w0 W B h0 y a cap V.drew := by
  obtain ⟨q, h', L', S, R, k⟩ := h
  exact ⟨q, h', L', S.later (Below.refl _ _).drew, R.later (Below.refl _ _).drew, k.drew⟩
set_option maxRecDepth 100000 in
set_option maxHeartbeats 4000000 in
theorem does_any {w0 W : World} {B : Nat} {h : Hm} {x : Dk} {a : Option Addr} {cap : Nat} {L : List Rc} (S : DS w0 B h x W) (R : RfA w0 W a cap L x) (hj : JOk 1000 x) (u : OpV) (hu : OpOk w0 u) (now : Int) :
    Calls Try.prog 9 #[.pointer (some ⟨B, 0, none⟩), rfV x a cap, opVal u, .int .i64 now] W (RetD w0 W B h (opX x u now) ) := by
  have hn : x.l.length ≤ 1000000 := by have := hj.len; omega
  have hr : ∀ i ∈ fly x.l, (cpAt x.l i).raw.length ≤ 1000000 := fun i hi => by have := hj.raw i (mem_fly.1 hi).1; omega
  have hB := S.d.lt
  have hw := S.below.size
  obtain ⟨hu1, hu2, hu3, hu4⟩ := hu
  have Z := dz_new W B h x a cap u
  obtain ⟨V, hV⟩ : ∃ V, V = ((W.alloc (rfO x a cap)).alloc (opO u)).alloc rfZ := ⟨_, rfl⟩
  have hbV : Below W.heap.size W V := by rw [hV]; exact (((Below.refl _ W).alloc (Nat.le_refl _) _).alloc (by simp) _).alloc (by simp <;> omega) _
  rw [← hV] at Z
  have SV := S.later hbV
  have RV := R.later hbV
  clear S R hbV
  obtain ⟨c0, c1, c2, c3, c4, z0, z1, g0, g1⟩ := Z.cs
  obtain ⟨m, hm⟩ : ∃ m, m = u.kind % 5 := ⟨_, rfl⟩
  by_cases h2 : m = 2
  · have hX : Hid (opX x u now = dblX x u.id now) := Lib.hid (by unfold opX; rw [← hm, if_pos h2])
    rw [hX.out]
    have hm2 : u.kind % 5 = 2 := by omega
    clear h2 hm hX
    have HR := Lib.hid (rdouble_any RV hn u.id now)
    have HC := Lib.hid (fun V2 (hb : Below V.heap.size V V2) => And.intro (Z.later hb) (SV.later hb))
    have HD := Lib.hid (fun V2 (S : DS w0 B h x V2) => (double_any S.d hn u.id now hu2).mono fun e w' q => S.wroteH q)
    clear RV SV Z hj hr
    unfold RetW at HR
    generalize dblX x u.id now = y at *
    generalize dblN x u.id now = yn at *
    generalize dblE x u.id now = ye at *
    go_enter Try.func9, Try.ntmps9
    go_upto_region 1 with fail
    rw [← hV]
    clear hV
    go_upto_region 4 with (go_at_call 22; go_must (with_reducible refine HR.out.mono ?_); rintro e w1 ⟨a1, cap1, L1, rfl, R1, hb1⟩)
    have bx := heap_alloc_new w1 (rfO y a1 cap1)
    have hbx := bal (w := w1) (rfO y a1 cap1)
    have hbb := hb1.trans (hbx.mono hb1.size)
    obtain ⟨Z1, S1⟩ := HC.out _ hbb
    have R2' := R1.later hbx
    have HDD := Lib.hid (HD.out _ S1)
    clear c0 c1 c2 c3 c4 z0 z1 g0 g1 HR HC HD hb1 hbx hbb R1
    generalize w1.alloc (rfO y a1 cap1) = V3 at *
    have HK := Lib.hid (show w1.heap.size ∉ blks B h from by
      obtain ⟨⟨n, D, d, _⟩, _⟩ := S1.d
      exact d.typ bx (by decide) (by decide) (by decide))
    obtain ⟨_, _, c2, c3, c4, _⟩ := Z1.cs
    have HW := Lib.hid (fun W3 h' (S2 : DS w0 B h' y W3) (hk : Kept (blks B h) V3 W3) => And.intro (And.intro (Z1.wrote hB hk) (hk.heap HK.out bx)) ((Z1.wrote hB hk).fin S2 (R2'.wrote S1.d hk) hw))
    have b0 := cofr bx 0 _ rfl
    have b1 := cofr bx 1 _ rfl
    clear Z1 S1 R2' bx HK
    go_wp2_with (go_at_call 19; go_must (with_reducible refine HDD.out.mono ?_); rintro e w2 ⟨rfl, ⟨h', S2⟩, hk2⟩; clear c2 c3 c4 b0 b1; obtain ⟨⟨Z2, bx2⟩, hf⟩ := HW.out _ _ S2 hk2; have HF := Lib.hid hf; obtain ⟨_, _, _, _, _, z0, z1, g0, g1⟩ := Z2.cs; have b0 := cofr bx2 0 _ rfl; have b1 := cofr bx2 1 _ rfl; clear hf Z2 bx2 S2 hk2)
    obtain ⟨y0, y1⟩ := HF.out.1
    exact bodyPost_ret (v := .tuple #[rfV y a1 cap1, .bool true]) (by simp [results, Try.results9, go_sem, y0, y1]) rfl HF.out.ret
  by_cases h3 : m = 3
  · have hX : Hid (opX x u now = endX x u.id now 1) := Lib.hid (by unfold opX; rw [← hm, if_neg h2, if_pos h3])
    rw [hX.out]
    have hm2 : u.kind % 5 = 3 := by omega
    clear h2 h3 hm hX
    have HR := Lib.hid (rend_any RV hn u.id now 1)
    have HC := Lib.hid (fun V2 (hb : Below V.heap.size V V2) => And.intro (Z.later hb) (SV.later hb))
    have HD := Lib.hid (fun V2 (S : DS w0 B h x V2) => ds_takeH S hn u.id now hu2 hr)
    clear RV SV Z hj hr
    unfold RetE at HR
    generalize endX x u.id now 1 = y at *
    generalize takL x u.id now = yl at *
    generalize whichE x u.id now = ye at *
    go_enter Try.func9, Try.ntmps9
    go_upto_region 1 with fail
    rw [← hV]
    clear hV
    go_upto_region 8 with (go_at_call 23; go_must (with_reducible refine HR.out.mono ?_); rintro e w1 ⟨a1, cap1, L1, ra, rc, rfl, hra, R1, hb1⟩)
    have bx := heap_alloc_new w1 (rfO y a1 cap1)
    have hbx := bal (w := w1) (rfO y a1 cap1)
    have hbb := hb1.trans (hbx.mono hb1.size)
    obtain ⟨Z1, S1⟩ := HC.out _ hbb
    have R2' := R1.later hbx
    have HDD := Lib.hid (HD.out _ S1)
    clear c0 c1 c2 c3 c4 z0 z1 g0 g1 HR HC HD hb1 hbx hbb R1
    generalize w1.alloc (rfO y a1 cap1) = V3 at *
    have HK := Lib.hid (show w1.heap.size ∉ blks B h from by
      obtain ⟨⟨n, D, d, _⟩, _⟩ := S1.d
      exact d.typ bx (by decide) (by decide) (by decide))
    obtain ⟨_, _, c2, c3, c4, _⟩ := Z1.cs
    have HW := Lib.hid (fun W3 h' (S2 : DS w0 B h' y W3) (hk : Kept (blks B h) V3 W3) => And.intro (And.intro (Z1.wrote hB hk) (hk.heap HK.out bx)) (fun W4 (hb4 : Below W3.heap.size W3 W4) => ((Z1.wrote hB hk).later hb4).fin (S2.later hb4) ((R2'.wrote S1.d hk).later hb4) hw))
    have HRA := Lib.hid hra
    clear Z1 S1 R2' bx HK hra
    go_upto_region 9 with (go_at_call 15; go_must (with_reducible refine HDD.out.mono ?_); rintro e w2 ⟨ta, tc, rfl, hta, ⟨h', S2⟩, hk2⟩; clear c2 c3 c4; obtain ⟨⟨Z2, bx2⟩, hf⟩ := HW.out _ _ S2 hk2; have HF := Lib.hid hf; obtain ⟨_, _, _, _, _, z0, z1, g0, g1⟩ := Z2.cs; have b0 := cofr bx2 0 _ rfl; have b1 := cofr bx2 1 _ rfl; have HSM := Lib.hid (oc.same_true ra ta yl.length rc tc yl w2.drew (HRA.out.later S2.below).drew (SlA.of_r hta).drew); clear hf Z2 bx2 S2 hk2 hta)
    clear HW HDD HRA
    have HFW := Lib.hid (fun q => HF.out (w2.drewN (1 + q)) (bdn (Below.refl _ _) (1 + q)))
    clear HF
    go_wp2_with fail
    go_region_with (go_at_call 16; go_must (with_reducible refine HSM.out.mono ?_); rintro e w4 ⟨rfl, q, rfl⟩)
    all_goals
      go_wp2_with fail
      obtain ⟨y0, y1⟩ := (HFW.out q).1
      exact bodyPost_ret (v := .tuple #[rfV y a1 cap1, .bool true]) (by simp [results, Try.results9, go_sem, y0, y1]) rfl (HFW.out q).ret
  by_cases h4 : m = 4
  · have hX : Hid (opX x u now = endX x u.id now 2) := Lib.hid (by unfold opX; rw [← hm, if_neg h2, if_neg h3, if_pos h4])
    rw [hX.out]
    have hm2 : u.kind % 5 = 4 := by omega
    clear h2 h3 h4 hm hX
    have HR := Lib.hid (rend_any RV hn u.id now 2)
    have HC := Lib.hid (fun V2 (hb : Below V.heap.size V V2) => And.intro (Z.later hb) (SV.later hb))
    have HD := Lib.hid (fun V2 (S : DS w0 B h x V2) => ds_dropH S hn u.id now hu2)
    clear RV SV Z hj hr
    unfold RetE at HR
    generalize endX x u.id now 2 = y at *
    generalize takL x u.id now = yl at *
    generalize whichE x u.id now = ye at *
    go_enter Try.func9, Try.ntmps9
    go_upto_region 1 with fail
    rw [← hV]
    clear hV
    go_upto_region 12 with (go_at_call 23; go_must (with_reducible refine HR.out.mono ?_); rintro e w1 ⟨a1, cap1, L1, ra, rc, rfl, hra, R1, hb1⟩)
    have bx := heap_alloc_new w1 (rfO y a1 cap1)
    have hbx := bal (w := w1) (rfO y a1 cap1)
    have hbb := hb1.trans (hbx.mono hb1.size)
    obtain ⟨Z1, S1⟩ := HC.out _ hbb
    have R2' := R1.later hbx
    clear c0 c1 c2 c3 c4 z0 z1 g0 g1 HR HC hb1 hbx hbb R1 hra
    generalize w1.alloc (rfO y a1 cap1) = V3 at *
    have HDD := Lib.hid (HD.out V3.drew (S1.later (Below.refl _ _).drew))
    have HK := Lib.hid (show w1.heap.size ∉ blks B h from by
      obtain ⟨⟨n, D, d, _⟩, _⟩ := S1.d
      exact d.typ bx (by decide) (by decide) (by decide))
    obtain ⟨_, _, c2, c3, c4, z0, z1, g0, g1⟩ := Z1.cs
    have b0 := cofr bx 0 _ rfl
    have b1 := cofr bx 1 _ rfl
    have HW := Lib.hid (fun W3 h' (S2 : DS w0 B h' y W3) (hk' : Kept (blks B h) V3.drew W3) => show (DZ W B h x a cap u W3 ∧ W3.heap[w1.heap.size]? = some (rfO y a1 cap1)) ∧ FinD w0 W B h y a1 cap1 (put2 (W.heap.size + 1 + 1) y a1 cap1 W3) from by
      have hk : Kept (blks B h) V3 W3 := (Kept.refl _ V3).drew.trans hk' (fun x hx => .inl hx)
      exact And.intro (And.intro (Z1.wrote hB hk) (hk.heap HK.out bx)) ((Z1.wrote hB hk).fin S2 (R2'.wrote S1.d hk) hw))
    clear Z1 S1 R2' bx HK HD
    go_wp2_with fail
    go_region_with (go_at_call 14; go_must (with_reducible refine HDD.out.mono ?_); rintro e w2 ⟨rfl, ⟨h', S2⟩, hk2⟩; clear z0 z1 g0 g1; obtain ⟨⟨Z2, bx2⟩, hf⟩ := HW.out _ _ S2 hk2; have HF := Lib.hid hf; obtain ⟨_, _, _, d3, _, z0, z1, g0, g1⟩ := Z2.cs; have b2 := cofr bx2 0 _ rfl; have b3 := cofr bx2 1 _ rfl; clear hf Z2 bx2 S2 hk2)
    all_goals
      go_wp2_with fail
      obtain ⟨y0, y1⟩ := HF.out.1
      exact bodyPost_ret (v := .tuple #[rfV y a1 cap1, .bool true]) (by simp [results, Try.results9, go_sem, y0, y1]) rfl HF.out.ret
  · have hX : Hid (opX x u now = putX x u.b.2.2.2 now) := Lib.hid (by unfold opX; rw [← hm, if_neg h2, if_neg h3, if_neg h4])
    rw [hX.out]
    have hm2 : ¬ u.kind % 5 = 2 := by omega
    have hm3 : ¬ u.kind % 5 = 3 := by omega
    have hm4 : ¬ u.kind % 5 = 4 := by omega
    clear h2 h3 h4 hm hX
    obtain ⟨kind, id, ⟨ba, bn, bc, bl⟩, dt⟩ := u
    dsimp only at *
    have hbl := hu4.len
    subst hbl
    have HR := Lib.hid (rput_any RV hn ba bc bl hu4 now)
    have HC := Lib.hid (fun V2 (hb : Below V.heap.size V V2) => And.intro (Z.later hb) (SV.later hb))
    have HD := Lib.hid (fun V2 (S : DS w0 B h x V2) => (put_any S.d hn (hu4.later S.below) now).mono fun e w' q => S.wroteH q)
    clear RV SV Z hj hr
    unfold RetW at HR
    generalize putX x bl now = y at *
    generalize putN x bl.length now = yn at *
    generalize putE x bl.length now = ye at *
    go_enter Try.func9, Try.ntmps9
    go_upto_region 1 with fail
    rw [← hV]
    clear hV
    go_upto_region 14 with (go_at_call 24; go_must (with_reducible refine HR.out.mono ?_); rintro e w1 ⟨a1, cap1, L1, rfl, R1, hb1⟩)
    have bx := heap_alloc_new w1 (rfO y a1 cap1)
    have hbx := bal (w := w1) (rfO y a1 cap1)
    have hbb := hb1.trans (hbx.mono hb1.size)
    obtain ⟨Z1, S1⟩ := HC.out _ hbb
    have R2' := R1.later hbx
    have HDD := Lib.hid (HD.out _ S1)
    clear c0 c1 c2 c3 c4 z0 z1 g0 g1 HR HC HD hb1 hbx hbb R1
    generalize w1.alloc (rfO y a1 cap1) = V3 at *
    have HK := Lib.hid (show w1.heap.size ∉ blks B h from by
      obtain ⟨⟨n, D, d, _⟩, _⟩ := S1.d
      exact d.typ bx (by decide) (by decide) (by decide))
    obtain ⟨_, _, c2, c3, c4, _⟩ := Z1.cs
    have HW := Lib.hid (fun W3 h' (S2 : DS w0 B h' y W3) (hk : Kept (blks B h) V3 W3) => And.intro (And.intro (Z1.wrote hB hk) (hk.heap HK.out bx)) ((Z1.wrote hB hk).fin S2 (R2'.wrote S1.d hk) hw))
    have b0 := cofr bx 0 _ rfl
    have b1 := cofr bx 1 _ rfl
    clear Z1 S1 R2' bx HK
    go_wp2_with (go_at_call 12; go_must (with_reducible refine HDD.out.mono ?_); rintro e w2 ⟨rfl, ⟨h', S2⟩, hk2⟩; clear c2 c3 c4 b0 b1; obtain ⟨⟨Z2, bx2⟩, hf⟩ := HW.out _ _ S2 hk2; have HF := Lib.hid hf; obtain ⟨_, _, _, _, _, z0, z1, g0, g1⟩ := Z2.cs; have b0 := cofr bx2 0 _ rfl; have b1 := cofr bx2 1 _ rfl; clear hf Z2 bx2 S2 hk2)
    obtain ⟨y0, y1⟩ := HF.out.1
    exact bodyPost_ret (v := .tuple #[rfV y a1 cap1, .bool true]) (by simp [results, Try.results9, go_sem, y0, y1]) rfl HF.out.ret
end Go.Proofs.Ytahegkbdefhlpaa.dc
