/-
  Several texts in one (written by merge.py): XSpnE XRbkS XRbkT XRbkU XRakZ
-/
import Derived.Test.YtpoifoanigpncaaSpnS
import Derived.Laws.StructEq
import Derived.Test.YtpoifoanigpncaaFly
import Derived.Test.YtpoifoanigpncaaRakL
import Derived.Test.YtpoifoanigpncaaRakR
import Derived.IntWalk
import Derived.Test.YtpoifoanigpncaaRakY
/-!   The reference's Same, of two lists of spans.
-/
namespace Go.Proofs.Ytpoifoanigpncaa.sp
open Go.RowKit aid mem
attribute [local go_sem ↓] Go.wp_at_zero Go.wp_at_succ
set_option linter.unusedVariables false

theorem eq_spB (x y : Int × Int) (w : World) : (Op.equalIn 10000 24 (.agg #[.int .i64 x.1, .int .i64 x.2]) (.agg #[.int .i64 y.1, .int .i64 y.2])).run Try.prog w = .ok (decide (x = y)) w := by
  rw [eq_sp]
  congr 1
  rw [Bool.eq_iff_iff]
  simp [Prod.ext_iff]
theorem take_eq_succ {l r : List (Int × Int)} {k : Nat} (h : l.take k = r.take k) (hk : k < l.length) (hr : k < r.length) : (l.take (k + 1) = r.take (k + 1)) ↔ l.getD k (0, 0) = r.getD k (0, 0) := by
  have e1 := List.take_succ_eq_append_getElem hk
  have e2 := List.take_succ_eq_append_getElem hr
  rw [e1, e2, h, List.append_right_inj]
  simp [List.getD, hk, hr]
theorem bdN (w : World) (n : Nat) : Below w.heap.size w (w.drewN n) := ⟨rfl, rfl, rfl, Nat.le_refl _, fun _ _ => rfl⟩

set_option maxRecDepth 100000 in
set_option maxHeartbeats 3200000 in
theorem rsame_any {w : World} {a b : Option Addr} {n m c d : Nat} {l r : List (Int × Int)} (ho : SlS w a n c l) (hq : SlS w b m d r) :
    Calls Try.prog 22 #[.slice a n c, .slice b m d] w fun e w' => e = .returned (.bool (decide (l = r))) ∧ Below w.heap.size w w' := by
  have hmo := ho.most
  have hleo := ho.le
  have hmq := hq.most
  have hleq := hq.le
  have hl1 := ho.len
  have hl2 := hq.len
  unfold maxLen at hmo hmq
  by_cases hnm : n = m
  · subst hnm
    have H1 := Lib.hid ho.cells
    have H2 := Lib.hid hq.cells
    have HL := Lib.hid (And.intro hl1 hl2)
    clear ho hq hl1 hl2
    go_enter Try.func22, Try.ntmps22
    go_wp2_with fail
    go_loopw [5] (fun i wr => ∃ k nq : Nat, k ≤ n ∧ i = .int .i64 k ∧ wr = w.drewN nq ∧ Hid (l.take k = r.take k)) (fun i _ => n - (intOf i).toNat)
    case atStart => exact ⟨0, 0, Nat.zero_le _, rfl, rfl, Lib.hid rfl⟩
    case round =>
      obtain ⟨k, nq, hk, rfl, rfl, HT⟩ := hrel
      have hk0 : (0 : Int) ≤ (k : Int) := by omega
      by_cases hlt : k < n
      · obtain ⟨b1, o1, rfl, hc1⟩ := H1.out (by omega)
        obtain ⟨b2, o2, rfl, hc2⟩ := H2.out (by omega)
        obtain ⟨g1, g2⟩ := hc1 k hlt
        obtain ⟨g3, g4⟩ := hc2 k hlt
        have hk1 : (k : Int) < (n : Int) := by omega
        have hst := take_eq_succ HT.out (by rw [HL.out.1]; exact hlt) (by rw [HL.out.2]; exact hlt)
        generalize l.getD k (0, 0) = x at *
        generalize r.getD k (0, 0) = y at *
        have HST := Lib.hid hst
        clear hc1 hc2 hst
        have eqg := eq_guard
        by_cases hxy : x = y
        · have eqb : ∀ w, (Op.equalIn 10000 24 (.agg #[.int .i64 x.1, .int .i64 x.2]) (.agg #[.int .i64 y.1, .int .i64 y.2])).run Try.prog w = .ok true w := fun w => by rw [eq_spB, hxy]; simp
          have H' := Lib.hid (HST.out.2 hxy)
          clear hxy HST
          go_wp2_with fail
          go_quiet (fail)
          clear eqb eqg
          go_wp2
          go_roundw
          case rel => exact ⟨k + 1, _, by omega, by go_num, rfl, H'⟩
          case measure => simp [intOf]; omega
        · have eqb : ∀ w, (Op.equalIn 10000 24 (.agg #[.int .i64 x.1, .int .i64 x.2]) (.agg #[.int .i64 y.1, .int .i64 y.2])).run Try.prog w = .ok false w := fun w => by rw [eq_spB, decide_eq_false hxy]
          have H' : Hid (decide (l = r) = false) := Lib.hid (decide_eq_false (fun e => hxy (HST.out.1 (by rw [e]))))
          clear hxy HST
          go_wp2_with fail
          go_quiet (fail)
          clear eqb eqg
          go_wp2
          go_ret
          exact ⟨ret_b H'.out.symm, ⟨rfl, rfl, rfl, Nat.le_refl _, fun _ _ => rfl⟩⟩
      · have H' : Hid (decide (l = r) = true) := Lib.hid (decide_eq_true (by have := HT.out; rw [List.take_of_length_le (by rw [HL.out.1]; omega), List.take_of_length_le (by rw [HL.out.2]; omega)] at this; exact this))
        clear HT
        go_wp2
        go_ret
        exact ⟨ret_b H'.out.symm, bdN w nq⟩
  · have H' : Hid (decide (l = r) = false) := Lib.hid (decide_eq_false (fun e => hnm (by rw [← hl1, ← hl2, e])))
    clear ho hq hl1 hl2
    go_enter Try.func22, Try.ntmps22
    go_wp2_with fail
    go_ret
    exact ⟨ret_b H'.out.symm, Below.refl _ _⟩
end Go.Proofs.Ytpoifoanigpncaa.sp
/-!   Lists: records sorted by their order; what is late, as the document reckons it.
-/
namespace Go.Proofs.Ytpoifoanigpncaa.rk
open Go.RowKit aid mem bk
set_option linter.unusedVariables false
set_option linter.unusedSimpArgs false

/-- how many stand ahead of it -/
def kf (x : Rc) : List Rc → Nat
  | [] => 0
  | y :: rest => if y.order < x.order then kf x rest + 1 else 0
def ins (x : Rc) (l : List Rc) : List Rc := l.take (kf x l) ++ [x] ++ l.drop (kf x l)
def srt (l : List Rc) : List Rc := l.foldl (fun out x => ins x out) []
abbrev So (l : List Rc) : Prop := l.Pairwise (fun x y => x.order < y.order)
theorem kf_le (x : Rc) : ∀ l : List Rc, kf x l ≤ l.length := by
  intro l
  induction l with
  | nil => simp [kf]
  | cons y rest ih =>
    simp only [kf]
    split
    · simp; exact ih
    · simp
theorem kf_lt (x : Rc) : ∀ (l : List Rc) (i : Nat), i < kf x l → (l.getD i Rc.zero).order < x.order := by
  intro l
  induction l with
  | nil => intro i hi; simp [kf] at hi
  | cons y rest ih =>
    intro i hi
    simp only [kf] at hi
    split at hi
    · rename_i c
      cases i with
      | zero => simpa using c
      | succ j => simpa using ih j (by omega)
    · omega
theorem kf_at (x : Rc) : ∀ (l : List Rc), kf x l < l.length → ¬ (l.getD (kf x l) Rc.zero).order < x.order := by
  intro l
  induction l with
  | nil => intro h; simp at h
  | cons y rest ih =>
    intro h
    simp only [kf] at h ⊢
    split at h
    · rename_i c
      rw [if_pos c]
      simpa using ih (by simpa using h)
    · rename_i c
      rw [if_neg c]
      simpa using c
theorem ins_perm (x : Rc) (l : List Rc) : (ins x l).Perm (x :: l) := by
  unfold ins
  have : l = l.take (kf x l) ++ l.drop (kf x l) := (List.take_append_drop _ _).symm
  conv => rhs; rw [this]
  rw [List.append_assoc]
  exact List.perm_middle
theorem ins_len (x : Rc) (l : List Rc) : (ins x l).length = l.length + 1 := by rw [(ins_perm x l).length_eq]; simp
theorem ins_so {x : Rc} : ∀ {l : List Rc}, So l → (∀ y ∈ l, y.order ≠ x.order) → So (ins x l) := by
  intro l
  induction l with
  | nil => intro _ _; simp [ins, kf]
  | cons y rest ih =>
    intro h hn
    obtain ⟨h1, h2⟩ := List.pairwise_cons.1 h
    by_cases c : y.order < x.order
    · have e : ins x (y :: rest) = y :: ins x rest := by simp [ins, kf, c]
      rw [e]
      refine List.pairwise_cons.2 ⟨fun z hz => ?_, ih h2 (fun z hz => hn z (List.mem_cons_of_mem _ hz))⟩
      rcases List.mem_cons.1 ((ins_perm x rest).mem_iff.1 hz) with rfl | hz
      · exact c
      · exact h1 z hz
    · have e : ins x (y :: rest) = x :: y :: rest := by simp [ins, kf, c]
      rw [e]
      have hy := hn y (by simp)
      refine List.pairwise_cons.2 ⟨fun z hz => ?_, h⟩
      rcases List.mem_cons.1 hz with rfl | hz
      · omega
      · have := h1 z hz; omega
theorem srt_snoc (l : List Rc) (x : Rc) : srt (l ++ [x]) = ins x (srt l) := by simp [srt]
theorem srt_all : ∀ (l out : List Rc), (∀ x ∈ l, ∀ y ∈ out, y.order ≠ x.order) → l.Pairwise (fun x y => x.order ≠ y.order) → So out → So (l.foldl (fun o x => ins x o) out) ∧ (l.foldl (fun o x => ins x o) out).Perm (l ++ out) := by
  intro l
  induction l with
  | nil => intro out _ _ h; exact ⟨h, List.Perm.refl _⟩
  | cons x rest ih =>
    intro out h1 h2 h3
    obtain ⟨h4, h5⟩ := List.pairwise_cons.1 h2
    obtain ⟨a, b⟩ := ih (ins x out) (fun z hz y hy => by
      rcases List.mem_cons.1 ((ins_perm x out).mem_iff.1 hy) with rfl | hy
      · exact h4 z hz
      · exact h1 z (List.mem_cons_of_mem _ hz) y hy) h5 (ins_so h3 (fun y hy => h1 x (by simp) y hy))
    refine ⟨a, b.trans ?_⟩
    exact ((ins_perm x out).append_left rest).trans (List.perm_middle)
theorem so_unique : ∀ {a b : List Rc}, So a → So b → a.Perm b → a = b := by
  intro a
  induction a with
  | nil => intro b _ _ h; exact (List.nil_perm.1 h).symm
  | cons x xs ih =>
    intro b ha hb h
    cases b with
    | nil => exact absurd h.length_eq (by simp)
    | cons y ys =>
      obtain ⟨a1, a2⟩ := List.pairwise_cons.1 ha
      obtain ⟨b1, b2⟩ := List.pairwise_cons.1 hb
      have hx : x ∈ y :: ys := h.mem_iff.1 (by simp)
      have hy : y ∈ x :: xs := h.mem_iff.2 (by simp)
      have e : x = y := by
        rcases List.mem_cons.1 hx with e | hx
        · exact e
        · rcases List.mem_cons.1 hy with e | hy
          · exact e.symm
          · have := b1 x hx; have := a1 y hy; omega
      subst e
      rw [ih a2 b2 (List.perm_cons x |>.1 h)]
theorem srt_eq {N L : List Nd} (hp : L.Perm N) (ho : bk.Ord L) : srt (N.map (·.2)) = L.map (·.2) := by
  have hso : So (L.map (·.2)) := List.pairwise_map.2 ho
  have hne : (L.map (·.2)).Pairwise (fun x y => x.order ≠ y.order) := hso.imp (fun h => by omega)
  have hne2 : (N.map (·.2)).Pairwise (fun x y => x.order ≠ y.order) := (hp.map (·.2)).pairwise hne (fun h => fun e => h e.symm)
  obtain ⟨a, b⟩ := srt_all (N.map (·.2)) [] (by simp) hne2 List.Pairwise.nil
  refine so_unique a hso ?_
  rw [List.append_nil] at b
  exact b.trans ((hp.map (·.2)).symm)
/-- what is late, as the document reckons it -/
def rl (O al now : Int) : List Rc → List (Int × Int) → Int → List (Int × Int) × Int
  | [], acc, nx => (acc, nx)
  | r :: rest, acc, nx => if r.lost = true ∨ O ≤ r.order then rl O al now rest acc nx else if r.sent + al < now then rl O al now rest (acc ++ [(r.f, r.t)]) nx
    else if nx < 0 ∨ r.sent + al + 1 < nx then rl O al now rest acc (r.sent + al + 1) else rl O al now rest acc nx
theorem rl_order (O al now : Int) : ∀ (l : List Rc) acc nx, (∀ y ∈ l, O ≤ y.order) → rl O al now l acc nx = (acc, nx) := by
  intro l
  induction l with
  | nil => intro acc nx _; rfl
  | cons y rest ih =>
    intro acc nx h
    simp only [rl]
    rw [if_pos (.inr (h y (by simp)))]
    exact ih acc nx (fun z hz => h z (List.mem_cons_of_mem _ hz))
theorem rl_sent (O al now : Int) : ∀ (l : List Rc) acc nx, 0 ≤ nx → (∀ y ∈ l, now ≤ y.sent + al ∧ nx ≤ y.sent + al + 1) → rl O al now l acc nx = (acc, nx) := by
  intro l
  induction l with
  | nil => intro acc nx _ _; rfl
  | cons y rest ih =>
    intro acc nx h0 h
    have h1 := h y (by simp)
    have h2 := ih acc nx h0 (fun z hz => h z (List.mem_cons_of_mem _ hz))
    simp only [rl]
    split
    · exact h2
    rw [if_neg (by omega), if_neg (by omega)]
    exact h2
theorem rl_eq (O al now : Int) (hal : 0 ≤ al) : ∀ (L : List Nd) acc, bk.Ord L → bk.Mo L → (∀ y ∈ L, 0 ≤ y.2.sent) →
    rl O al now (L.map (·.2)) acc (-1) = ((lt1 O al now L acc).1, if (lt1 O al now L acc).2.2 = true then (lt1 O al now L acc).2.1 else -1) ∧ ((lt1 O al now L acc).2.2 = false → (lt1 O al now L acc).2.1 = 0) ∧ ((lt1 O al now L acc).2.2 = true → 0 ≤ (lt1 O al now L acc).2.1) := by
  intro L
  induction L with
  | nil => intro acc _ _ _; simp [rl, lt1]
  | cons x rest ih =>
    intro acc ho hm hs
    obtain ⟨o1, o2⟩ := List.pairwise_cons.1 ho
    obtain ⟨m1, m2⟩ := List.pairwise_cons.1 hm
    have h0 := hs x (by simp)
    have hs' : ∀ y ∈ rest, 0 ≤ y.2.sent := fun y hy => hs y (List.mem_cons_of_mem _ hy)
    by_cases h1 : O ≤ x.2.order
    · have e1 : lt1 O al now (x :: rest) acc = (acc, 0, false) := by simp only [lt1]; rw [if_pos h1]
      have e2 : rl O al now ((x :: rest).map (·.2)) acc (-1) = (acc, -1) := rl_order O al now _ acc (-1) (fun y hy => by
        obtain ⟨z, hz, rfl⟩ := List.mem_map.1 hy
        rcases List.mem_cons.1 hz with rfl | hz
        · exact h1
        · have := o1 z hz
          omega)
      rw [e1, e2]
      simp
    · cases h2 : x.2.lost with
      | true =>
        have e1 : lt1 O al now (x :: rest) acc = lt1 O al now rest acc := by simp only [lt1]; rw [if_neg h1, h2, if_pos rfl]
        have e2 : rl O al now ((x :: rest).map (·.2)) acc (-1) = rl O al now (rest.map (·.2)) acc (-1) := by simp only [List.map_cons, rl]; rw [if_pos (.inl h2)]
        rw [e1, e2]
        exact ih acc o2 m2 hs'
      | false =>
        by_cases h3 : now ≤ x.2.sent + al
        · have e1 : lt1 O al now (x :: rest) acc = (acc, x.2.sent + al + 1, true) := by simp only [lt1]; rw [if_neg h1, h2, if_neg (by simp), if_pos h3]
          have e2 : rl O al now ((x :: rest).map (·.2)) acc (-1) = (acc, x.2.sent + al + 1) := by
            simp only [List.map_cons, rl]
            rw [if_neg (by rw [h2]; simp; omega), if_neg (by omega), if_pos (by omega)]
            exact rl_sent O al now _ acc _ (by omega) (fun y hy => by
              obtain ⟨z, hz, rfl⟩ := List.mem_map.1 hy
              have := m1 z hz
              omega)
          rw [e1, e2]
          simp
          omega
        · have e1 : lt1 O al now (x :: rest) acc = lt1 O al now rest (acc ++ [(x.2.f, x.2.t)]) := by simp only [lt1]; rw [if_neg h1, h2, if_neg (by simp), if_neg h3]
          have e2 : rl O al now ((x :: rest).map (·.2)) acc (-1) = rl O al now (rest.map (·.2)) (acc ++ [(x.2.f, x.2.t)]) (-1) := by
            simp only [List.map_cons, rl]
            rw [if_neg (by rw [h2]; simp; omega), if_pos (by omega)]
          rw [e1, e2]
          exact ih _ o2 m2 hs'
end Go.Proofs.Ytpoifoanigpncaa.rk
/-!   The reference's Sorted.
-/
namespace Go.Proofs.Ytpoifoanigpncaa.rk
open Go.RowKit aid mem bk
attribute [local go_sem ↓] Go.wp_at_zero Go.wp_at_succ
set_option linter.unusedVariables false
set_option linter.unusedSimpArgs false

theorem rs_head (P : Program) (t : TypeId) (e : TypeId) (i : TypeInfo) (ht : P.underlying t = some (.slice e)) (hi : P.info? e = some i) (a : Option Addr) (n cap k : Nat) (hk : k ≤ cap) :
    ∀ wx, (Instr.slice t (.slice a n cap) none (some (.int .i64 (k : Int))) none).run P wx = .ok (.slice a k cap) wx := by
  intro wx
  have e1 : (asIntOf (.int .i64 (k : Int))).run P wx = .ok (.i64, (k : Int)) wx := rfl
  cases a <;> simp [Instr.slice, Instr.sliceBounds, Instr.sliceBound, run_underlying ht, sizeOf, typeInfo, hi, e1, hk, Addr.add]
theorem rs_from (P : Program) (t : TypeId) (e : TypeId) (i : TypeInfo) (sz : Nat) (ht : P.underlying t = some (.slice e)) (hi : P.info? e = some i) (hsize : i.size = sz) (a : Option Addr) (n cap k : Nat) (hk : k ≤ n) :
    ∀ wx, (Instr.slice t (.slice a n cap) (some (.int .i64 (k : Int))) none none).run P wx = .ok (.slice (if cap = k then a else a.map (·.add (k * sz))) (n - k) (cap - k)) wx := by
  intro wx
  have e1 : (asIntOf (.int .i64 (k : Int))).run P wx = .ok (.i64, (k : Int)) wx := rfl
  simp [Instr.slice, Instr.sliceBounds, Instr.sliceBound, run_underlying ht, sizeOf, typeInfo, hi, hsize, e1, hk]
theorem rca_take {w : World} {a : Option Addr} {n cap : Nat} {l : List Rc} (h : RcA w a n cap l) (k : Nat) (hk : k ≤ n) : RcA w a k cap (l.take k) := by
  refine ⟨by rw [List.length_take, h.len]; omega, Nat.le_trans hk h.le, h.most, ?_⟩
  rcases h.cells with h0 | ⟨b, off, rfl, hc⟩
  · exact .inl h0
  · refine .inr ⟨b, off, rfl, fun i hi => ?_⟩
    have e : (l.take k).getD i Rc.zero = l.getD i Rc.zero := by simp [List.getD, List.getElem?_take, hi]
    rw [e]
    exact hc i (by omega)
theorem rca_from {w : World} {a : Option Addr} {n cap : Nat} {l : List Rc} (h : RcA w a n cap l) (k : Nat) (hk : k ≤ n) : RcA w (if cap = k then a else a.map (·.add (k * 7))) (n - k) (cap - k) (l.drop k) := by
  have hle := h.le
  refine ⟨by rw [List.length_drop, h.len], by omega, by have := h.most; omega, ?_⟩
  by_cases c : cap = k
  · rw [if_pos c]
    rcases h.cells with ⟨h0, h1⟩ | ⟨b, off, rfl, hc⟩
    · exact .inl ⟨h0, by omega⟩
    · exact .inr ⟨b, off, rfl, fun i hi => by omega⟩
  · rw [if_neg c]
    rcases h.cells with ⟨h0, h1⟩ | ⟨b, off, rfl, hc⟩
    · omega
    · refine .inr ⟨b, off + k * 7, by simp; unfold Addr.add; split <;> simp_all, fun i hi => ?_⟩
      have e : (l.drop k).getD i Rc.zero = l.getD (k + i) Rc.zero := by simp [List.getD, List.getElem?_drop]
      rw [e, show off + k * 7 + i * 7 = off + (k + i) * 7 by omega]
      exact hc (k + i) (by omega)
/-- a record in a row, its order -/
theorem rca_cell {w : World} {a : Option Addr} {n cap : Nat} {l : List Rc} (h : RcA w a n cap l) (h0 : 0 < n) : ∃ b off, a = some ⟨b, off, none⟩ ∧ ∀ W, RcA W a n cap l → ∀ i, i < n → RcCs W b (off + i * 7) (l.getD i Rc.zero) := by
  obtain ⟨b, off, ha, _⟩ := h.at_ h0
  refine ⟨b, off, ha, fun W hW i hi => ?_⟩
  obtain ⟨b2, off2, ha2, hc⟩ := hW.at_ h0
  rw [ha] at ha2
  injection ha2 with ha2
  injection ha2 with e1 e2
  subst e1 e2
  exact hc i hi
theorem own_below {W1 W2 : World} {B : Nat} {v : Value} (hB : B ≤ W1.heap.size) (hv : ∀ k, v.ownBlock = some k → B ≤ k) (hg : W1.grownBy W2 v.ownBlock) : Below B W1 W2 := below_grown hg hB hv
theorem own_rca {w : World} {base : Nat} {a : Option Addr} {n cap : Nat} {l : List Rc} (h : w.ownsRow base 58 7 (.slice a n cap) n (rcCells l)) : RcA w a n cap l := by
  obtain ⟨a7, c7, hv, hr⟩ := own_rc h
  injection hv with v1 v2 v3
  subst v1 v3
  exact hr
set_option maxRecDepth 100000 in
set_option maxHeartbeats 8000000 in
theorem sorted_any {w : World} {a : Option Addr} {n cap : Nat} {l : List Rc} (h : RcA w a n cap l) (hn : n ≤ 900) :
    Calls Try.prog 48 #[.slice a n cap] w fun e w' => ∃ a' cap', e = .returned (.slice a' n cap') ∧ w'.ownsRow w.heap.size 58 7 (.slice a' n cap') n (rcCells (srt l)) ∧ Below w.heap.size w w' := by
  have hle := h.le
  have hmost := h.most
  unfold maxLen at hmost
  have hll := h.len
  have HA := Lib.hid h
  obtain ⟨i0, hi, hz0, hz1, hz2⟩ := info_split info_rec
  clear h
  go_enter Try.func48, Try.ntmps48
  go_wp2_with fail
  go_loopw [3, 4] (fun s3 i wr => ∃ (k : Nat) (a3 : Option Addr) (c3 : Nat), i = .int .i64 k ∧ k ≤ n ∧ s3 = .slice a3 k c3 ∧ wr.ownsRow w.heap.size 58 7 (.slice a3 k c3) k (rcCells (srt (l.take k))) ∧ Below w.heap.size w wr) (fun _ i _ => n - (intOf i).toNat)
  case atStart => exact ⟨0, none, 0, rfl, by omega, rfl, World.ownsRow_nil _ _ _ _, Below.refl _ _⟩
  case round =>
    obtain ⟨k, a3, c3, rfl, hk, rfl, hown, hb⟩ := hrel
    have hout := own_rca hown
    have HO := Lib.hid hout
    have HBW := Lib.hid hb
    by_cases hlt : k < n
    · have hk2 : (k : Int) < (n : Int) := by omega
      have hk0 : (0 : Int) ≤ (k : Int) := by omega
      have hk9 : (k : Int) < 900 := by omega
      obtain ⟨sb, so, rfl, hsc⟩ := rca_cell HA.out (by omega)
      have HSC := Lib.hid (fun W (hb : Below w.heap.size w W) => hsc W (HA.out.later hb) k hlt)
      have HNX := Lib.hid (show srt (l.take (k + 1)) = ins (l.getD k Rc.zero) (srt (l.take k)) from by
        have e : l.take (k + 1) = l.take k ++ [l.getD k Rc.zero] := by
          rw [List.take_add_one, List.getElem?_eq_getElem (by omega)]
          simp [List.getD, show k < l.length by omega]
        rw [e, srt_snoc])
      have hol := hout.len
      have hole := hout.le
      have hom := hout.most
      unfold maxLen at hom
      clear hsc hout hb hown
      generalize l.getD k Rc.zero = x at *
      generalize srt (l.take k) = out at *
      have hKl := kf_le x out
      have HKL := Lib.hid (kf_lt x out)
      have HKA := Lib.hid (kf_at x out)
      unfold ins at HNX
      generalize kf x out = K at *
      rw [hol] at hKl
      go_wp2_with fail
      go_loopw [5] (fun j wx => ∃ (q : Nat), j = .int .i64 q ∧ q ≤ K ∧ Below wr.heap.size wr wx) (fun j _ => K - (intOf j).toNat)
      case atStart => exact ⟨0, rfl, by omega, Below.refl _ _⟩
      case round =>
        obtain ⟨q, rfl, hq, hbx⟩ := hrel
        have HBX := Lib.hid hbx
        have HB2 := Lib.hid (HBW.out.trans (hbx.mono HBW.out.size))
        have HO2 := Lib.hid (HO.out.later hbx)
        have HS := Lib.hid (HSC.out _ HB2.out)
        have hq0 : (0 : Int) ≤ (q : Int) := by omega
        clear hbx
        by_cases hql : q < K
        · obtain ⟨s0, s1, s2, s3, s4, s5, s6⟩ := HS.out
          have hq2 : (q : Int) < (k : Int) := by omega
          obtain ⟨ob, oo, rfl, hoc⟩ := rca_cell HO2.out (by omega)
          obtain ⟨_, _, _, o3, _⟩ := hoc wr HO2.out q (by omega)
          have hlo := HKL.out q hql
          generalize (out.getD q Rc.zero).order = oq at *
          generalize x.order = xq at *
          clear hoc s0 s1 s2 s4 s5 s6
          go_upto_region 6 with fail
          go_quiet (fail)
          go_wp2_with fail
          go_roundw
          case rel => exact ⟨q + 1, by go_num, by omega, HBX.out.trans ((belN wr nq).mono HBX.out.size)⟩
          case measure => simp [intOf]; omega
        · obtain rfl : K = q := by omega
          by_cases hKk : K < k
          · obtain ⟨s0, s1, s2, s3, s4, s5, s6⟩ := HS.out
            have hq2 : (K : Int) < (k : Int) := by omega
            obtain ⟨ob, oo, rfl, hoc⟩ := rca_cell HO2.out (by omega)
            obtain ⟨_, _, _, o3, _⟩ := hoc wr HO2.out K (by omega)
            have hlo := HKA.out (by omega)
            generalize (out.getD K Rc.zero).order = oq at *
            clear hoc s0 s1 s2 s4 s5 s6
            have hlo2 : decide (oq < x.order) = false := decide_eq_false (by omega)
            go_upto_region 6 with fail
            go_quiet (fail)
            have hbv := HB2.out.trans ((belN wr nq).mono HB2.out.size)
            have hov := HO2.out.later (belN wr nq)
            have hsl1 := rs_head Try.prog 52 58 i0 Try.underlying52 hi (some ⟨ob, oo, none⟩) k c3 K (by omega)
            have hsl2 := rs_from Try.prog 52 58 i0 7 Try.underlying52 hi hz1 (some ⟨ob, oo, none⟩) k c3 K (by omega)
            have hrr : k - K = (k - K) := by omega
            have HFR := Lib.hid (fun W (h : RcA W (some ⟨ob, oo, none⟩) k c3 out) => rca_from h K (by omega))
            rw [hrr] at hsl2 HFR
            clear hrr
            generalize (if c3 = K then (some ⟨ob, oo, none⟩) else ((some ⟨ob, oo, none⟩) : Option Addr).map (·.add (K * 7))) = ad2 at *
            generalize wr.drewN nq = V at *
            have b0 := al V (.cells #[] 58)
            have HSRC := Lib.hid (((rca_take hov K (by omega)).later b0).src)
            have HV := Lib.hid hbv
            have HOV := Lib.hid hov
            have hKn := hKl
            have HKN := Lib.hid (show K ≤ k ∧ (k : Nat) < 900 from ⟨by omega, by omega⟩)
            clear hbv hov b0
            go_upto_region 9 with (at_builtin; go_must (refine wpList_append_sz _ rfl (.tmp 32) (.tmp 35) 52 52 rfl V.heap.size 58 i0 (.agg #[.int .i64 0, .int .i64 0, .int .i64 0, .int .i64 0, .int .i64 0, .int .i64 0, .bool false]) 7 56 Try.underlying52 hi hz0 hz1 (by decide) hz2 rfl (.slice (some ⟨V.heap.size, 0, none⟩) 0 0) 0 (rcCells []) rfl (rc_empty V) (.slice (some ⟨ob, oo, none⟩) K c3) rfl K (rcCells (out.take K)) HSRC.out (by have := HKN.out; unfold maxLen; omega) (by have := HKN.out; omega) (by simp) ?_); intro a4 c4 w4 ho4 hg4 hat4)
            rw [Nat.zero_add] at ho4
            simp only [Nat.zero_add] at hat4 ⊢
            have H4 : Hid (Below V.heap.size V w4 ∧ w4.ownsRow V.heap.size 58 7 (.slice a4 K c4) K (rcCells (out.take K)) ∧ ∀ k, Value.ownBlock (.slice a4 K c4) = some k → V.heap.size ≤ k) := Lib.hid (by
              refine ⟨(al V (.cells #[] 58)).trans (own_below (by simp) (fun k hk => by simp [Value.ownBlock] at hk; omega) hg4), by simpa [rcCells] using ho4, fun k hk => ?_⟩
              rcases hat4 with q | q
              · rw [q] at hk; simp [Value.ownBlock] at hk; omega
              · rw [q] at hk; simp at hk; omega)
            clear ho4 hg4 hat4 HSRC
            have HB4 := Lib.hid (HV.out.trans (H4.out.1.mono HV.out.size))
            obtain ⟨s0, s1, s2, s3, s4, s5, s6⟩ := HSC.out _ HB4.out
            have HO5 := Lib.hid (own_later H4.out.2.1 (al w4 (.cells #[.int .i64 x.f, .int .i64 x.t, .int .i64 x.sent, .int .i64 x.order, .int .i64 x.times, .int .i64 x.out, .bool x.lost] 58)))
            have HZ4 := Lib.hid (show V.heap.size ≤ w4.heap.size from H4.out.1.size)
            go_upto_region 10 with (at_builtin; go_must (refine wpList_append_sz _ rfl (.tmp 37) (.tmp 42) 52 52 rfl V.heap.size 58 i0 (.agg #[.int .i64 0, .int .i64 0, .int .i64 0, .int .i64 0, .int .i64 0, .int .i64 0, .bool false]) 7 56 Try.underlying52 hi hz0 hz1 (by decide) hz2 rfl (.slice a4 K c4) K (rcCells (out.take K)) rfl HO5.out _ rfl 1 (rcCells [x]) (rc_one w4 x) (by have := HKN.out; unfold maxLen; omega) (by have := HKN.out; omega) (by have := HZ4.out; simp; omega) ?_); intro a5 c5 w5 ho5 hg5 hat5)
            clear s0 s1 s2 s3 s4 s5 s6 HO5
            have H5 : Hid (Below V.heap.size V w5 ∧ w5.ownsRow V.heap.size 58 7 (.slice a5 (K + 1) c5) (K + 1) (rcCells (out.take K) ++ rcCells [x]) ∧ ∀ k, Value.ownBlock (.slice a5 (K + 1) c5) = some k → V.heap.size ≤ k) := Lib.hid (by
              have hz := HZ4.out
              refine ⟨(H4.out.1.trans ((al w4 _).mono H4.out.1.size)).trans (own_below (by simp; omega) H4.out.2.2 hg5), ho5, fun k hk => ?_⟩
              rcases hat5 with q | q
              · rw [q] at hk; exact H4.out.2.2 k hk
              · rw [q] at hk; simp at hk; omega)
            clear ho5 hg5 hat5 H4 HZ4
            have HO5 := Lib.hid H5.out.2.1
            have HS5 := Lib.hid ((HFR.out _ (HOV.out.later H5.out.1)).src)
            have HZ5 := Lib.hid (show V.heap.size ≤ w5.heap.size from H5.out.1.size)
            go_upto_region 4 with (at_builtin; go_must (refine wpList_append_sz _ rfl (.tmp 44) (.tmp 47) 52 52 rfl V.heap.size 58 i0 (.agg #[.int .i64 0, .int .i64 0, .int .i64 0, .int .i64 0, .int .i64 0, .int .i64 0, .bool false]) 7 56 Try.underlying52 hi hz0 hz1 (by decide) hz2 rfl (.slice a5 (K + 1) c5) (K + 1) (rcCells (out.take K) ++ rcCells [x]) rfl HO5.out (.slice ad2 (k - K) (c3 - K)) rfl (k - K) (rcCells (out.drop K)) HS5.out (by have := HKN.out; unfold maxLen; omega) (by have := HKN.out; omega) HZ5.out ?_); intro a6 c6 w6 ho6 hg6 hat6)
            have e6 : K + 1 + (k - K) = k + 1 := by have := HKN.out; omega
            rw [e6] at ho6 ⊢
            have H6 : Hid (w6.ownsRow w.heap.size 58 7 (.slice a6 (k + 1) c6) (k + 1) (rcCells (srt (l.take (k + 1)))) ∧ Below w.heap.size w w6) := Lib.hid (by
              rw [← rcCells_append, ← rcCells_append, ← HNX.out] at ho6
              have hb6 := H5.out.1.trans (own_below H5.out.1.size H5.out.2.2 hg6)
              exact ⟨bk.own_base ho6 HV.out.size, HV.out.trans (hb6.mono HV.out.size)⟩)
            clear ho6 hg6 hat6 H5 HO5 HS5
            go_wp2_with fail
            go_roundw
            case rel => exact ⟨k + 1, a6, c6, by go_num, by omega, rfl, H6.out.1, H6.out.2⟩
            case measure => simp [intOf]; omega
          · obtain rfl : K = k := by omega
            go_upto_region 6 with fail
            go_quiet (fail)
            have hbv := HB2.out.trans ((belN wr nq).mono HB2.out.size)
            have hov := HO2.out.later (belN wr nq)
            have hsl1 := rs_head Try.prog 52 58 i0 Try.underlying52 hi a3 K c3 K (by omega)
            have hsl2 := rs_from Try.prog 52 58 i0 7 Try.underlying52 hi hz1 a3 K c3 K (by omega)
            have hrr : K - K = 0 := by omega
            have HFR := Lib.hid (fun W (h : RcA W a3 K c3 out) => rca_from h K (by omega))
            rw [hrr] at hsl2 HFR
            clear hrr
            generalize (if c3 = K then a3 else (a3 : Option Addr).map (·.add (K * 7))) = ad2 at *
            generalize wr.drewN nq = V at *
            have b0 := al V (.cells #[] 58)
            have HSRC := Lib.hid (((rca_take hov K (by omega)).later b0).src)
            have HV := Lib.hid hbv
            have HOV := Lib.hid hov
            have hKn := hKl
            have HKN := Lib.hid (show K ≤ K ∧ (K : Nat) < 900 from ⟨by omega, by omega⟩)
            clear hbv hov b0
            go_upto_region 9 with (at_builtin; go_must (refine wpList_append_sz _ rfl (.tmp 32) (.tmp 35) 52 52 rfl V.heap.size 58 i0 (.agg #[.int .i64 0, .int .i64 0, .int .i64 0, .int .i64 0, .int .i64 0, .int .i64 0, .bool false]) 7 56 Try.underlying52 hi hz0 hz1 (by decide) hz2 rfl (.slice (some ⟨V.heap.size, 0, none⟩) 0 0) 0 (rcCells []) rfl (rc_empty V) (.slice a3 K c3) rfl K (rcCells (out.take K)) HSRC.out (by have := HKN.out; unfold maxLen; omega) (by have := HKN.out; omega) (by simp) ?_); intro a4 c4 w4 ho4 hg4 hat4)
            rw [Nat.zero_add] at ho4
            simp only [Nat.zero_add] at hat4 ⊢
            have H4 : Hid (Below V.heap.size V w4 ∧ w4.ownsRow V.heap.size 58 7 (.slice a4 K c4) K (rcCells (out.take K)) ∧ ∀ k, Value.ownBlock (.slice a4 K c4) = some k → V.heap.size ≤ k) := Lib.hid (by
              refine ⟨(al V (.cells #[] 58)).trans (own_below (by simp) (fun k hk => by simp [Value.ownBlock] at hk; omega) hg4), by simpa [rcCells] using ho4, fun k hk => ?_⟩
              rcases hat4 with q | q
              · rw [q] at hk; simp [Value.ownBlock] at hk; omega
              · rw [q] at hk; simp at hk; omega)
            clear ho4 hg4 hat4 HSRC
            have HB4 := Lib.hid (HV.out.trans (H4.out.1.mono HV.out.size))
            obtain ⟨s0, s1, s2, s3, s4, s5, s6⟩ := HSC.out _ HB4.out
            have HO5 := Lib.hid (own_later H4.out.2.1 (al w4 (.cells #[.int .i64 x.f, .int .i64 x.t, .int .i64 x.sent, .int .i64 x.order, .int .i64 x.times, .int .i64 x.out, .bool x.lost] 58)))
            have HZ4 := Lib.hid (show V.heap.size ≤ w4.heap.size from H4.out.1.size)
            go_upto_region 10 with (at_builtin; go_must (refine wpList_append_sz _ rfl (.tmp 37) (.tmp 42) 52 52 rfl V.heap.size 58 i0 (.agg #[.int .i64 0, .int .i64 0, .int .i64 0, .int .i64 0, .int .i64 0, .int .i64 0, .bool false]) 7 56 Try.underlying52 hi hz0 hz1 (by decide) hz2 rfl (.slice a4 K c4) K (rcCells (out.take K)) rfl HO5.out _ rfl 1 (rcCells [x]) (rc_one w4 x) (by have := HKN.out; unfold maxLen; omega) (by have := HKN.out; omega) (by have := HZ4.out; simp; omega) ?_); intro a5 c5 w5 ho5 hg5 hat5)
            clear s0 s1 s2 s3 s4 s5 s6 HO5
            have H5 : Hid (Below V.heap.size V w5 ∧ w5.ownsRow V.heap.size 58 7 (.slice a5 (K + 1) c5) (K + 1) (rcCells (out.take K) ++ rcCells [x]) ∧ ∀ k, Value.ownBlock (.slice a5 (K + 1) c5) = some k → V.heap.size ≤ k) := Lib.hid (by
              have hz := HZ4.out
              refine ⟨(H4.out.1.trans ((al w4 _).mono H4.out.1.size)).trans (own_below (by simp; omega) H4.out.2.2 hg5), ho5, fun k hk => ?_⟩
              rcases hat5 with q | q
              · rw [q] at hk; exact H4.out.2.2 k hk
              · rw [q] at hk; simp at hk; omega)
            clear ho5 hg5 hat5 H4 HZ4
            have HO5 := Lib.hid H5.out.2.1
            have HS5 := Lib.hid ((HFR.out _ (HOV.out.later H5.out.1)).src)
            have HZ5 := Lib.hid (show V.heap.size ≤ w5.heap.size from H5.out.1.size)
            go_upto_region 4 with (at_builtin; go_must (refine wpList_append_sz _ rfl (.tmp 44) (.tmp 47) 52 52 rfl V.heap.size 58 i0 (.agg #[.int .i64 0, .int .i64 0, .int .i64 0, .int .i64 0, .int .i64 0, .int .i64 0, .bool false]) 7 56 Try.underlying52 hi hz0 hz1 (by decide) hz2 rfl (.slice a5 (K + 1) c5) (K + 1) (rcCells (out.take K) ++ rcCells [x]) rfl HO5.out (.slice ad2 0 (c3 - K)) rfl 0 (rcCells (out.drop K)) HS5.out (by have := HKN.out; unfold maxLen; omega) (by have := HKN.out; omega) HZ5.out ?_); intro a6 c6 w6 ho6 hg6 hat6)
            have e6 : K + 1 + 0 = K + 1 := by have := HKN.out; omega
            rw [e6] at ho6 ⊢
            have H6 : Hid (w6.ownsRow w.heap.size 58 7 (.slice a6 (K + 1) c6) (K + 1) (rcCells (srt (l.take (K + 1)))) ∧ Below w.heap.size w w6) := Lib.hid (by
              rw [← rcCells_append, ← rcCells_append, ← HNX.out] at ho6
              have hb6 := H5.out.1.trans (own_below H5.out.1.size H5.out.2.2 hg6)
              exact ⟨bk.own_base ho6 HV.out.size, HV.out.trans (hb6.mono HV.out.size)⟩)
            clear ho6 hg6 hat6 H5 HO5 HS5
            go_wp2_with fail
            go_roundw
            case rel => exact ⟨K + 1, a6, c6, by go_num, by omega, rfl, H6.out.1, H6.out.2⟩
            case measure => simp [intOf]; omega
    · obtain rfl : k = n := by omega
      have hll2 := HA.out.len
      rw [List.take_of_length_le (by omega)] at hown
      go_wp2_with fail
      go_ret
      exact ⟨a3, c3, rfl, hown, hb⟩
end Go.Proofs.Ytpoifoanigpncaa.rk
/-!   The reference's Late.
-/
namespace Go.Proofs.Ytpoifoanigpncaa.rk
open Go.RowKit aid mem bk sp
attribute [local go_sem ↓] Go.wp_at_zero Go.wp_at_succ
set_option linter.unusedVariables false
set_option linter.unusedSimpArgs false

abbrev rkO (x : Rk) : Obj := .cells (rkC x) 38
/-- what is late of the document's: a row of spans of one's own, the next time -/
def RetT (R : List (Int × Int) × Int) (w : World) (e : Ending) (w' : World) : Prop := ∃ a n cap, e = .returned (.tuple #[.slice a n cap, .int .i64 R.2]) ∧ SlS w' a n cap R.1 ∧ Below w.heap.size w w'
/-- the rack's box, the sorted row, what is late so far -/
structure LS (w : World) (x : Rk) (sa : Option Addr) (n sc : Nat) (S : List Rc) (v : Value) (acc : List (Int × Int)) (W : World) : Prop where
  bx : W.heap[w.heap.size]? = some (rkO x)
  sr : W.ownsRow (w.heap.size + 1) 58 7 (.slice sa n sc) n (rcCells S)
  ow : W.ownsRow (w.heap.size + 1) 24 2 v acc.length (spCells acc)
  below : Below w.heap.size w W
theorem LS.ra {w W : World} {x : Rk} {sa : Option Addr} {n sc : Nat} {S : List Rc} {v : Value} {acc : List (Int × Int)} (h : LS w x sa n sc S v acc W) : RcA W sa n sc S := own_rca h.sr
theorem LS.later {w W W' : World} {x : Rk} {sa : Option Addr} {n sc : Nat} {S : List Rc} {v : Value} {acc : List (Int × Int)} (h : LS w x sa n sc S v acc W) (hb : Below W.heap.size W W') : LS w x sa n sc S v acc W' :=
  ⟨(hb.block _ (lt_of_block h.bx)).trans h.bx, own_later h.sr hb, own_later h.ow hb, h.below.trans (hb.mono h.below.size)⟩
abbrev X3 (b : Nat) (x : Rk) (W : World) : Prop := W.cell? ⟨b, 1, none⟩ = some (.int .i64 x.rtt) ∧ W.cell? ⟨b, 2, none⟩ = some (.int .i64 x.order)
theorem x3_of {W : World} {b : Nat} {x : Rk} (h : W.heap[b]? = some (rkO x)) : X3 b x W := ⟨cofr h 1 _ rfl, cofr h 2 _ rfl⟩
set_option maxRecDepth 100000 in
set_option maxHeartbeats 8000000 in
theorem rlate_any {w : World} {a : Option Addr} {n cap : Nat} {l : List Rc} (h : RcA w a n cap l) (hn : n ≤ 900) (x : Rk) (hr : 0 ≤ x.rtt ∧ x.rtt ≤ 1152921504606846976) (hs : ∀ y ∈ srt l, 0 ≤ y.sent ∧ y.sent ≤ 1152921504606846976) (now window : Int) :
    Calls Try.prog 21 #[rkV x, .slice a n cap, .int .i64 now, .int .i64 window] w (RetT (rl x.order (x.rtt + hld window) now (srt l) [] (-1)) w) := by
  have hbx := heap_alloc_new w (rkO x)
  have b0 := al w (rkO x)
  have HSRT := Lib.hid (sorted_any (h.later b0) hn)
  have hh := hld_bd window
  have HTM := Lib.hid (fun W => rtime_eq window W)
  obtain ⟨H, hH⟩ : ∃ H, H = hld window := ⟨_, rfl⟩
  rw [← hH] at hh HTM ⊢
  clear hH h
  have HX0 := Lib.hid hbx
  have HB0 := Lib.hid b0
  have HZ := Lib.hid (show (w.alloc (rkO x)).heap.size = w.heap.size + 1 from by simp)
  obtain ⟨S, hS⟩ : ∃ S, S = srt l := ⟨_, rfl⟩
  rw [← hS] at hs HSRT ⊢
  clear hS hbx b0
  have HSN := Lib.hid hs
  clear hs
  obtain ⟨R, hR⟩ : ∃ R, R = rl x.order (x.rtt + H) now S [] (-1) := ⟨_, rfl⟩
  rw [← hR]
  have HR := Lib.hid hR.symm
  clear hR
  obtain ⟨i0, hi, hz0, hz1, hz2⟩ := info_split info_span
  go_enter Try.func21, Try.ntmps21
  go_upto_region 2 with (go_at_call 48; go_must (with_reducible refine HSRT.out.mono ?_); rintro e w1 ⟨sa, sc, rfl, q1, q2⟩)
  have T0 : LS w x sa n sc S (.slice none 0 0) [] w1 := ⟨(q2.block _ (lt_of_block HX0.out)).trans HX0.out, by rw [HZ.out] at q1; exact q1, World.ownsRow_nil _ _ _ _, HB0.out.trans (q2.mono HB0.out.size)⟩
  have HW1 := Lib.hid (show w.heap.size + 1 ≤ w1.heap.size from by have := q2.size; have := HZ.out; omega)
  clear q1 q2 HSRT HX0 HB0
  go_wp2_with fail
  go_loopw [11, 12, 13] (fun s11 s12 i wr => ∃ (k : Nat) (v : Value) (acc : List (Int × Int)) (nx : Int), i = .int .i64 k ∧ k ≤ n ∧ s11 = v ∧ s12 = .int .i64 nx ∧ LS w x sa n sc S v acc wr ∧ acc.length ≤ k ∧ w.heap.size + 1 ≤ wr.heap.size ∧ Hid (rl x.order (x.rtt + H) now (S.drop k) acc nx = R)) (fun _ _ i _ => n - (intOf i).toNat)
  case atStart => exact ⟨0, _, [], -1, rfl, by omega, rfl, rfl, T0, by simp, HW1.out, Lib.hid (by rw [List.drop_zero]; exact HR.out)⟩
  case round =>
    clear T0
    obtain ⟨k, v, acc, nx, rfl, hk, rfl, rfl, T, hac, hsz, HRL⟩ := hrel
    have HSL := Lib.hid T.ra.len
    have hsle := T.ra.le
    have hsm := T.ra.most
    unfold maxLen at hsm
    obtain ⟨va, vc, rfl⟩ := own_form T.ow
    by_cases hlt : k < n
    · have hk2 : (k : Int) < (n : Int) := by omega
      have hk0 : (0 : Int) ≤ (k : Int) := by omega
      have hk9 : (k : Int) < 900 := by omega
      obtain ⟨sb, so, rfl, hsc⟩ := rca_cell T.ra (by omega)
      have hkl : k < S.length := by have := HSL.out; omega
      have hd : S.drop k = S.getD k Rc.zero :: S.drop (k + 1) := by rw [List.drop_eq_getElem_cons hkl]; simp [List.getD, hkl]
      have hm : S.getD k Rc.zero ∈ S := by simp only [List.getD, List.getElem?_eq_getElem hkl, Option.getD_some]; exact List.getElem_mem hkl
      have hst := HSN.out _ hm
      obtain ⟨s0, s1, s2, s3, s4, s5, s6⟩ := hsc wr T.ra k hlt
      have HRD := HRL.out
      rw [hd] at HRD
      simp only [rl] at HRD
      generalize S.getD k Rc.zero = y at *
      clear hd hm hkl hsc HRL
      go_upto_region 8 with fail
      have T2 := T.later (al wr (rcO y))
      have hy := heap_alloc_new wr (rcO y)
      have hN := lt_of_block T.bx
      have hsz2 : w.heap.size + 1 ≤ (wr.alloc (rcO y)).heap.size := by simp; omega
      obtain ⟨d0, d1, d2, d3, _, _, d6⟩ := sr7_of hy
      obtain ⟨x1, x2⟩ := x3_of T2.bx
      clear T hy s0 s1 s2 s3 s4 s5 s6
      generalize wr.alloc (rcO y) = W1 at *
      generalize wr.heap.size = Y at *
      have HT2 := Lib.hid T2
      have hsz3 := Lib.hid hsz2
      clear T2 hsz2 hN
      cases hlo : y.lost with
      | true =>
        rw [if_pos (.inl hlo)] at HRD
        have HF := Lib.hid HRD
        rw [hlo] at d6
        clear HRD
        go_wp2_with fail
        go_roundw
        case rel => exact ⟨k + 1, _, acc, nx, by go_num, by omega, rfl, rfl, HT2.out, by omega, hsz3.out, HF⟩
        case measure => simp [intOf]; omega
      | false =>
        rw [hlo] at d6
        by_cases hor : x.order ≤ y.order
        · rw [if_pos (.inr hor)] at HRD
          have HF := Lib.hid HRD
          clear HRD hlo
          go_wp2_with fail
          go_roundw
          case rel => exact ⟨k + 1, _, acc, nx, by go_num, by omega, rfl, rfl, HT2.out, by omega, hsz3.out, HF⟩
          case measure => simp [intOf]; omega
        · rw [if_neg (by rw [hlo]; simp; omega), ← Int.add_assoc] at HRD
          have hsb1 : wrap64 (y.sent + x.rtt) = y.sent + x.rtt := w64 _ (by omega)
          have hsb2 : wrap64 (y.sent + x.rtt + H) = y.sent + x.rtt + H := w64 _ (by omega)
          have hsb3 : IntKind.i64.wrap (y.sent + x.rtt + H + 1) = y.sent + x.rtt + H + 1 := IntWalk.i64_in _ (by omega)
          have HAT := Lib.hid (show 0 ≤ y.sent + x.rtt + H ∧ y.sent + x.rtt + H ≤ 4611686018427387904 from by omega)
          have QT := Lib.hid (show ∀ m, Calls Try.prog 26 #[.int .i64 window] (W1.drewN m) fun e w'' => e = .returned (.int .i64 H) ∧ ∃ q, w'' = W1.drewN q from fun m => (HTM.out (W1.drewN m)).mono fun e w'' ⟨h1, h2⟩ => ⟨h1, m, h2.symm⟩)
          have HRD2 := Lib.hid HRD
          clear HRD hlo
          go_upto_region 9 with fail
          go_quiet ((go_at_call 26; with_reducible exact QT.out _))
          have HT3 := Lib.hid (HT2.out.later (belN W1 nq))
          have hsz4 := Lib.hid (show w.heap.size + 1 ≤ (W1.drewN nq).heap.size from hsz3.out)
          have d0' : (W1.drewN nq).cell? ⟨Y, 0, none⟩ = some (.int .i64 y.f) := d0
          have d1' : (W1.drewN nq).cell? ⟨Y, 1, none⟩ = some (.int .i64 y.t) := d1
          clear d0 d1 d2 d3 d6 x1 x2 HT2 hsz3 QT
          generalize W1.drewN nq = W2 at *
          generalize y.sent + x.rtt + H = at_ at *
          have HRD := HRD2.out
          by_cases hc1 : at_ < now
          · rw [if_pos hc1] at HRD
            have HF := Lib.hid HRD
            clear HRD HRD2
            have HOW := Lib.hid (own_later HT3.out.ow (al W2 (.cells #[.int .i64 y.f, .int .i64 y.t] 24)))
            have HSP := Lib.hid (span_src W2 (y.f, y.t))
            have hac9 := Lib.hid (show acc.length ≤ 900 from by omega)
            go_upto_region 6 with (at_builtin; go_must (refine wpList_append_sz _ rfl (.tmp 48) (.tmp 51) 61 61 rfl (w.heap.size + 1) 24 i0 (.agg #[.int .i64 0, .int .i64 0]) 2 16 Try.underlying61 hi hz0 hz1 (by decide) hz2 rfl (.slice va acc.length vc) acc.length (spCells acc) rfl HOW.out _ rfl 1 [.int .i64 y.f, .int .i64 y.t] HSP.out (by have := hac9.out; unfold maxLen; omega) (by have := hac9.out; omega) (by have := hsz4.out; simp; omega) ?_); intro a6 c6 w6 ho6 hg6 hat6)
            have HT6 := Lib.hid (show LS w x (some ⟨sb, so, none⟩) n sc S (.slice a6 (acc ++ [(y.f, y.t)]).length c6) (acc ++ [(y.f, y.t)]) w6 ∧ w.heap.size + 1 ≤ w6.heap.size from by
              have hT := HT3.out.later (al W2 (.cells #[.int .i64 y.f, .int .i64 y.t] 24))
              have hz := hsz4.out
              have hb6 : Below (w.heap.size + 1) (W2.alloc (.cells #[.int .i64 y.f, .int .i64 y.t] 24)) w6 := own_below (by simp; omega) (fun k hk => (own_in HOW.out hk).2) hg6
              have hr6 : w6.ownsRow (w.heap.size + 1) 58 7 (.slice (some ⟨sb, so, none⟩) n sc) n (rcCells S) := own_step hT.sr (fun k o hk ho => by
                obtain ⟨cur, hcur⟩ := own_ty hT.sr hk
                refine (hg6.block k (lt_of_block ho) (fun e => ?_)).trans ho
                obtain ⟨cur2, hcur2⟩ := own_ty HOW.out e.symm
                rw [hcur] at hcur2
                simp at hcur2)
              refine ⟨⟨(hb6.block _ (by omega)).trans hT.bx, hr6, ?_, hT.below.trans (hb6.mono (by omega))⟩, Nat.le_trans (by simp; omega) hb6.size⟩
              rw [spCells_snoc, List.length_append]
              exact ho6)
            clear ho6 hg6 hat6 HOW HSP HT3 hsz4 d0' d1'
            go_wp2_with fail
            go_roundw
            case rel => exact ⟨k + 1, _, acc ++ [(y.f, y.t)], nx, by go_num, by omega, by rw [List.length_append]; rfl, rfl, HT6.out.1, by rw [List.length_append]; simp; omega, HT6.out.2, HF⟩
            case measure => simp [intOf]; omega
          · rw [if_neg hc1] at HRD
            have hat := HAT.out
            by_cases hc2 : nx < 0
            · rw [if_pos (.inl hc2)] at HRD
              have HF := Lib.hid HRD
              clear HRD HRD2
              go_wp2_with fail
              go_roundw
              case rel => exact ⟨k + 1, _, acc, at_ + 1, by go_num, by omega, rfl, rfl, HT3.out, by omega, hsz4.out, HF⟩
              case measure => simp [intOf]; omega
            · by_cases hc3 : at_ + 1 < nx
              · rw [if_pos (.inr hc3)] at HRD
                have HF := Lib.hid HRD
                clear HRD HRD2
                go_wp2_with fail
                go_roundw
                case rel => exact ⟨k + 1, _, acc, at_ + 1, by go_num, by omega, rfl, rfl, HT3.out, by omega, hsz4.out, HF⟩
                case measure => simp [intOf]; omega
              · rw [if_neg (by omega)] at HRD
                have HF := Lib.hid HRD
                clear HRD HRD2
                go_wp2_with fail
                go_roundw
                case rel => exact ⟨k + 1, _, acc, nx, by go_num, by omega, rfl, rfl, HT3.out, by omega, hsz4.out, HF⟩
                case measure => simp [intOf]; omega
    · have hkn : S.drop k = [] := List.drop_eq_nil_of_le (by have := HSL.out; omega)
      have HRD := HRL.out
      rw [hkn] at HRD
      simp only [rl] at HRD
      subst HRD
      obtain ⟨a9, c9, hv, hsl, _⟩ := sls_of_own T.ow
      injection hv with v1 v2 v3
      subst v1 v3
      have hb9 := T.below
      clear T
      go_wp2_with fail
      go_ret2
      exact ⟨_, _, _, rfl, hsl, hb9⟩
end Go.Proofs.Ytpoifoanigpncaa.rk
/-!   Layer 15's law RackLate.
-/
namespace Go.Proofs.Ytpoifoanigpncaa.rk
open Go.RowKit aid mem opn bk sp
attribute [local go_sem ↓] Go.wp_at_zero Go.wp_at_succ
set_option linter.unusedVariables false
set_option linter.unusedSimpArgs false

abbrev rqO (x : Rk) : Obj := .cells (rkC x) 38
abbrev rqZ : Obj := .cells #[.int .i64 0, .int .i64 0, .int .i64 0, .int .i64 0, .bool false, .int .i64 0, .int .i64 0, .int .i64 0] 38
abbrev putq (n : Nat) (y : Rk) (W : World) : World := (((((((W.setCell ⟨n, 0, none⟩ (.int .i64 y.floor)).setCell ⟨n, 1, none⟩ (.int .i64 y.rtt)).setCell ⟨n, 2, none⟩ (.int .i64 y.order)).setCell ⟨n, 3, none⟩ (.int .i64 y.fin)).setCell ⟨n, 4, none⟩ (.bool y.mixed)).setCell ⟨n, 5, none⟩ (.int .i64 y.mult)).setCell ⟨n, 6, none⟩ (.int .i64 y.round)).setCell ⟨n, 7, none⟩ (.int .i64 y.rest)
theorem putq_at {n : Nat} {z : Rk} {W : World} (h : W.heap[n]? = some (rqO z)) (y : Rk) : (putq n y W).heap[n]? = some (rqO y) := by
  unfold putq
  have g0 : (W.setCell ⟨n, 0, none⟩ (.int .i64 y.floor)).heap[n]? = some (rqO ⟨y.floor, z.rtt, z.order, z.fin, z.mixed, z.mult, z.round, z.rest⟩) := bk.setp h _
  generalize W.setCell ⟨n, 0, none⟩ (.int .i64 y.floor) = W0 at *
  have g1 : (W0.setCell ⟨n, 1, none⟩ (.int .i64 y.rtt)).heap[n]? = some (rqO ⟨y.floor, y.rtt, z.order, z.fin, z.mixed, z.mult, z.round, z.rest⟩) := bk.setp g0 _
  generalize W0.setCell ⟨n, 1, none⟩ (.int .i64 y.rtt) = W1 at *
  have g2 : (W1.setCell ⟨n, 2, none⟩ (.int .i64 y.order)).heap[n]? = some (rqO ⟨y.floor, y.rtt, y.order, z.fin, z.mixed, z.mult, z.round, z.rest⟩) := bk.setp g1 _
  generalize W1.setCell ⟨n, 2, none⟩ (.int .i64 y.order) = W2 at *
  have g3 : (W2.setCell ⟨n, 3, none⟩ (.int .i64 y.fin)).heap[n]? = some (rqO ⟨y.floor, y.rtt, y.order, y.fin, z.mixed, z.mult, z.round, z.rest⟩) := bk.setp g2 _
  generalize W2.setCell ⟨n, 3, none⟩ (.int .i64 y.fin) = W3 at *
  have g4 : (W3.setCell ⟨n, 4, none⟩ (.bool y.mixed)).heap[n]? = some (rqO ⟨y.floor, y.rtt, y.order, y.fin, y.mixed, z.mult, z.round, z.rest⟩) := bk.setp g3 _
  generalize W3.setCell ⟨n, 4, none⟩ (.bool y.mixed) = W4 at *
  have g5 : (W4.setCell ⟨n, 5, none⟩ (.int .i64 y.mult)).heap[n]? = some (rqO ⟨y.floor, y.rtt, y.order, y.fin, y.mixed, y.mult, z.round, z.rest⟩) := bk.setp g4 _
  generalize W4.setCell ⟨n, 5, none⟩ (.int .i64 y.mult) = W5 at *
  have g6 : (W5.setCell ⟨n, 6, none⟩ (.int .i64 y.round)).heap[n]? = some (rqO ⟨y.floor, y.rtt, y.order, y.fin, y.mixed, y.mult, y.round, z.rest⟩) := bk.setp g5 _
  generalize W5.setCell ⟨n, 6, none⟩ (.int .i64 y.round) = W6 at *
  exact bk.setp g6 _
theorem putq_kept (n : Nat) (y : Rk) (W : World) : Kept [n] W (putq n y W) :=
  ((((((((Kept.refl [n] W).setCell (.inl (by simp)) _).setCell (.inl (by simp)) _).setCell (.inl (by simp)) _).setCell (.inl (by simp)) _).setCell (.inl (by simp)) _).setCell (.inl (by simp)) _).setCell (.inl (by simp)) _).setCell (.inl (by simp)) _
/-- the answer's box is written -/
abbrev Q8 (b : Nat) (x : Rk) (W : World) : Prop := W.cell? ⟨b, 0, none⟩ = some (.int .i64 x.floor) ∧ W.cell? ⟨b, 1, none⟩ = some (.int .i64 x.rtt) ∧ W.cell? ⟨b, 2, none⟩ = some (.int .i64 x.order) ∧ W.cell? ⟨b, 3, none⟩ = some (.int .i64 x.fin) ∧ W.cell? ⟨b, 4, none⟩ = some (.bool x.mixed) ∧ W.cell? ⟨b, 5, none⟩ = some (.int .i64 x.mult) ∧ W.cell? ⟨b, 6, none⟩ = some (.int .i64 x.round) ∧ W.cell? ⟨b, 7, none⟩ = some (.int .i64 x.rest)
theorem q8_of {W : World} {b : Nat} {x : Rk} (h : W.heap[b]? = some (rqO x)) : Q8 b x W := ⟨cofr h 0 _ rfl, cofr h 1 _ rfl, cofr h 2 _ rfl, cofr h 3 _ rfl, cofr h 4 _ rfl, cofr h 5 _ rfl, cofr h 6 _ rfl, cofr h 7 _ rfl⟩
theorem f8_of {W : World} {b : Nat} {x : Rk} (h : W.heap[b]? = some (rqO x)) : W.frozen? ⟨b, 0, none⟩ = false ∧ W.frozen? ⟨b, 1, none⟩ = false ∧ W.frozen? ⟨b, 2, none⟩ = false ∧ W.frozen? ⟨b, 3, none⟩ = false ∧ W.frozen? ⟨b, 4, none⟩ = false ∧ W.frozen? ⟨b, 5, none⟩ = false ∧ W.frozen? ⟨b, 6, none⟩ = false ∧ W.frozen? ⟨b, 7, none⟩ = false := ⟨fofr h 0, fofr h 1, fofr h 2, fofr h 3, fofr h 4, fofr h 5, fofr h 6, fofr h 7⟩
/-- and that all of it was made behind a world -/
structure HT (n0 : Nat) (W3 w : World) (q : FlV) (r : bk.Rc) (X B T K : Nat) (x : Rk) (s : Hd) (N L : List Nd) (a : Option Addr) (n cap : Nat) (W : World) : Prop where
  hs : HS w q r X B T K x s N L a n cap W
  ab : Below n0 W3 W
  lt : n0 ≤ W.heap.size
theorem HT.later {n0 : Nat} {W3 w W W' : World} {q : FlV} {r : bk.Rc} {X B T K n cap : Nat} {x : Rk} {s : Hd} {N L : List Nd} {a : Option Addr} (h : HT n0 W3 w q r X B T K x s N L a n cap W) (hb : Below W.heap.size W W') : HT n0 W3 w q r X B T K x s N L a n cap W' := ⟨h.hs.later hb, h.ab.trans (hb.mono h.lt), Nat.le_trans h.lt hb.size⟩
def zR : Rk := ⟨0, 0, 0, 0, false, 0, 0, 0⟩
/-- a box was made behind a world, its cells are nought -/
structure GZ (W0 W : World) : Prop where
  z : W.heap[W0.heap.size]? = some (rqO zR)
  below : Below W0.heap.size W0 W
theorem gz_new (W0 : World) {W : World} (hb : Below (W0.alloc rqZ).heap.size (W0.alloc rqZ) W) : GZ W0 W := by
  have h := heap_alloc_new W0 rqZ
  have b := al W0 rqZ
  exact ⟨(hb.block _ (lt_of_block h)).trans h, b.trans (hb.mono b.size)⟩
theorem gz_newd (W0 : World) {W : World} (hb : Below (W0.alloc rqZ).drew.heap.size (W0.alloc rqZ).drew W) : GZ W0 W := gz_new W0 ((Below.refl (W0.alloc rqZ).heap.size (W0.alloc rqZ)).drew.trans hb)
theorem GZ.later {W0 W W' : World} (h : GZ W0 W) (hb : Below W.heap.size W W') : GZ W0 W' := ⟨(hb.block _ (lt_of_block h.z)).trans h.z, h.below.trans (hb.mono h.below.size)⟩
theorem GZ.put {W0 W : World} (h : GZ W0 W) (x : Rk) : Below W0.heap.size W0 (putq W0.heap.size x W) := h.below.trans ((putq_kept W0.heap.size x W).below (by simp) h.below.size)
theorem came_time {r : Rc} {now : Int} (hr : 0 ≤ r.sent) (h : 0 ≤ now) : 0 ≤ (came (newR 0) r now 0 true false 0).rtt ∧ (came (newR 0) r now 0 true false 0).rtt ≤ now := came_small (by simp [newR]; omega) hr 0 true false 0
set_option maxRecDepth 100000 in
set_option maxHeartbeats 8000000 in
theorem walk_RackLate (w : World) (s : {q : FlV // FlIs w q}) (r : {r : bk.Rc // RcOk r}) (ahead : Int) (ha : -9223372036854775808 ≤ ahead ∧ ahead ≤ 9223372036854775807) (win : Int) (hwin : -9223372036854775808 ≤ win ∧ win ≤ 9223372036854775807) :
    Calls Try.prog 4 #[.agg #[.slice s.1.sa s.1.sn s.1.sc, .slice s.1.ba s.1.bn s.1.bc, .slice s.1.la s.1.ln s.1.lc], .agg #[.int .i64 r.1.f, .int .i64 r.1.t, .int .i64 r.1.sent, .int .i64 r.1.order, .int .i64 r.1.times, .int .i64 r.1.out, .bool r.1.lost], .int .i64 ahead, .int .i64 win] w fun e w' => e = .returned (.bool true) ∧ Below w.heap.size w w' := by
  obtain ⟨q, hq⟩ := s
  obtain ⟨r, hr⟩ := r
  dsimp only at *
  have S := hb_new w q r
  have HQ := Lib.hid hq
  have HF := Lib.hid (fun W (hb : Below w.heap.size w W) => fly_any (sd_later HQ.out.s hb) (by_later HQ.out.b hb) (by_later HQ.out.l hb))
  unfold RetF at HF
  have HN := Lib.hid (fun W => rk.new_any (f := 0) ⟨by omega, by omega⟩ W)
  clear hq
  go_enter Try.func4, Try.ntmps4
  go_upto_region 3 with (go_at_call 8; go_must (with_reducible refine (rk.known_any _).mono ?_); rintro e w1 ⟨rfl, hb⟩; replace S := S.later hb; clear hb)
  have c0 := cofr S.fl 0 _ rfl; have c1 := cofr S.fl 1 _ rfl; have c2 := cofr S.fl 2 _ rfl
  go_upto_region 4 with (go_at_call 16; go_must (with_reducible refine (HF.out _ S.below).mono ?_); rintro e w2 ⟨B, T, s, N, L, a, m, cap, c, rfl, f1, f2, f3, f4, f5, f6⟩)
  have S2 := (S.later f5).later (al w2 (rbO a m cap (same s N)))
  have B2 := f1.later (al w2 (rbO a m cap (same s N)))
  have K2 := heap_alloc_new w2 (rbO a m cap (same s N))
  have A2 := f4.later (al w2 (rbO a m cap (same s N)))
  clear S c0 c1 c2 HF HQ f1 f4 f5 f6
  generalize w2.alloc (rbO a m cap (same s N)) = W3 at *
  generalize w2.heap.size = K at *
  go_upto_region 5 with (go_at_call 9; go_must (with_reducible refine (HN.out _).mono ?_); rintro e w4 ⟨rfl, x4, b4⟩)
  have HW := Lib.hid (fun V W' x' (hb : Below W3.heap.size W3 V) (hk : Kept [W3.heap.size] V W') (hx : RkAt W' W3.heap.size x') => HS.wrote S2 B2 K2 A2 hb (Nat.le_refl _) hk hx)
  have S4 := HW.out w4 w4 _ b4 (Kept.refl _ _) x4
  have HAB := Lib.hid b4
  have XO := Lib.hid x4
  have HI := Lib.hid f2
  have HC60 := Lib.hid f3
  clear x4 b4 S2 B2 K2 A2 HN f2 f3
  generalize W3.heap.size = X at *
  obtain ⟨b0, b1, b2, b3, b4, b5, b6⟩ := b7_of S4.hb.rc
  have hnow : 0 ≤ s.now ∧ s.now ≤ 15300 := by have := HI.out.now; have := HC60.out; omega
  have HNOW := Lib.hid hnow
  have HBEL := Lib.hid S4.hb.below
  by_cases h1 : ahead < 0
  · clear hnow S4 XO
    go_wp2_with (go_at_call 8; go_must (with_reducible refine (rk.known_b HBEL.out).mono ?_); rintro e w5 ⟨rfl, hb⟩)
    go_ret
    exact ⟨rfl, hb⟩
  by_cases h2 : 1099511627776 < ahead
  · clear hnow S4 XO
    go_wp2_with (go_at_call 8; go_must (with_reducible refine (rk.known_b HBEL.out).mono ?_); rintro e w5 ⟨rfl, hb⟩)
    go_ret
    exact ⟨rfl, hb⟩
  by_cases h3 : r.sent < 0
  · clear hnow S4 XO
    go_wp2_with (go_at_call 8; go_must (with_reducible refine (rk.known_b HBEL.out).mono ?_); rintro e w5 ⟨rfl, hb⟩)
    go_ret
    exact ⟨rfl, hb⟩
  have hw : IntKind.i64.wrap (s.now + ahead) = s.now + ahead := IntWalk.i64_in _ (by omega)
  by_cases h4 : s.now + ahead < r.sent
  · clear hnow S4 XO
    go_wp2_with (go_at_call 8; go_must (with_reducible refine (rk.known_b HBEL.out).mono ?_); rintro e w5 ⟨rfl, hb⟩)
    go_ret
    exact ⟨rfl, hb⟩
  have hh := hld_bd win
  have hsm := came_time (r := r) (now := s.now + ahead) (by omega) (by omega)
  have HCM := Lib.hid (fun W (h : RkAt W X (newR 0)) => came_any h r (now := s.now + ahead) (least := 0) (has := true) (told := false) (val := 0) ⟨by omega, by omega⟩ ⟨by omega, by omega⟩ ⟨by omega, by omega⟩)
  have HRC := Lib.hid (fun W => rcame_any (newR 0) r (now := s.now + ahead) (least := 0) (has := true) (told := false) (val := 0) ⟨by omega, by omega⟩ ⟨by omega, by omega⟩ ⟨by omega, by omega⟩ W)
  have HLT := Lib.hid (fun W (x' : Rk) (h : HS w q r X B T K x' s N L a m cap W) (hx : 0 ≤ x'.rtt ∧ x'.rtt ≤ 1152921504606846976) (t : Int) => show Calls Try.prog 20 #[.pointer (some ⟨X, 0, none⟩), .pointer (some ⟨B, 0, none⟩), .int .i64 t, .int .i64 win] W (RetL W (lt1 x'.order (x'.rtt + hld win) t L [])) from
    late_any h.rk h.bk.ln.lr HI.out.ord ⟨hx.1, by omega⟩ (fun y hy => by have := HI.out.rc y (HI.out.perm.mem_iff.1 hy); have := HNOW.out; omega) (by have := HI.out.perm.length_eq; have := HI.out.len; have := HC60.out; omega) t win)
  have HRL := Lib.hid (fun W (x' : Rk) (h : RcA W a m cap (N.map (·.2))) (hx : 0 ≤ x'.rtt ∧ x'.rtt ≤ 1152921504606846976) (t : Int) => show Calls Try.prog 21 #[rkV x', .slice a m cap, .int .i64 t, .int .i64 win] W (RetT ((lt1 x'.order (x'.rtt + hld win) t L []).1, if (lt1 x'.order (x'.rtt + hld win) t L []).2.2 = true then (lt1 x'.order (x'.rtt + hld win) t L []).2.1 else -1) W) from by
    have hse := srt_eq HI.out.perm HI.out.ord
    have := rlate_any h (by have := h.len; have := HI.out.len; have := HC60.out; simp at *; omega) x' hx (fun y hy => by
      rw [hse] at hy
      obtain ⟨z, hz, rfl⟩ := List.mem_map.1 hy
      have := HI.out.rc z (HI.out.perm.mem_iff.1 hz)
      have := HNOW.out
      omega) t win
    rw [hse, (rl_eq x'.order (x'.rtt + hld win) t (by have := hld_bd win; omega) L [] HI.out.ord HI.out.mon (fun y hy => (HI.out.rc y (HI.out.perm.mem_iff.1 hy)).1.1)).1] at this
    exact this)
  have HRQ := Lib.hid (fun (x' : Rk) (hx : 0 ≤ x'.rtt ∧ x'.rtt ≤ 1152921504606846976) (t : Int) => (rl_eq x'.order (x'.rtt + hld win) t (by have := hld_bd win; omega) L [] HI.out.ord HI.out.mon (fun y hy => (HI.out.rc y (HI.out.perm.mem_iff.1 hy)).1.1)).2)
  generalize cameB (newR 0) r (s.now + ahead) 0 true false 0 = bb at *
  generalize came (newR 0) r (s.now + ahead) 0 true false 0 = x at *
  have HX := Lib.hid (show 0 ≤ x.rtt ∧ x.rtt ≤ 1152921504606846976 from by omega)
  clear hsm hh
  go_upto_region 8 with fail
  generalize s.now + ahead = now at *
  have F0 : HT X W3 w q r X B T K (newR 0) s N L a m cap w4 := ⟨S4, HAB.out, Nat.le_of_lt S4.rk.lt⟩
  have F : HT X W3 w q r X B T K (newR 0) s N L a m cap w4.drew := ⟨S4.drew, HAB.out.trans (Below.refl X w4).drew, Nat.le_of_lt S4.rk.lt⟩
  clear S4 b0 b1 b2 b3 b4 b5 b6 hnow HBEL
  have HRW := Lib.hid (fun W => rnew_any 0 W)
  have HRE := Lib.hid (fun W => rec_any r W)
  go_cut [15, 16] (fun s15 s16 wx => ∃ Y, s15 = .pointer (some ⟨Y, 0, none⟩) ∧ s16 = .bool bb ∧ Hid (HT X W3 w q r X B T K (newR 0) s N L a m cap wx ∧ wx.heap[Y]? = some (rqO x)))
  case first =>
    have P0 := b7_of F.hs.hb.rc
    go_region_held3 (fun W' => B7 (w.heap.size + 1) r W') (first | with_reducible exact b7_of F.hs.hb.rc | with_reducible exact b7_of (F.later (al _ _)).hs.hb.rc | with_reducible exact b7_of ((F0.later (al _ _)).later (Below.refl _ _).drew).hs.hb.rc | with_reducible exact b7_of (F.later G.below).hs.hb.rc | with_reducible exact b7_of (F.later (G.put x)).hs.hb.rc | go_keep)
      (first
        | (go_at_call 10; (with_reducible refine (HRW.out _).mono ?_); rintro e w5 ⟨rfl, q5⟩; first | (replace F := F.later q5; clear q5) | (have G := gz_newd _ q5; replace F := F0; clear q5; obtain ⟨z0, z1, z2, z3, z4, z5, z6, z7⟩ := q8_of G.z; obtain ⟨f0, f1, f2, f3, f4, f5, f6, f7⟩ := f8_of G.z))
        | (go_at_call 18; (with_reducible refine (HRE.out _).mono ?_); rintro e w6 ⟨rfl, q6⟩; first | (replace F := F.later q6; clear q6) | (have G := gz_new _ q6; clear q6; obtain ⟨z0, z1, z2, z3, z4, z5, z6, z7⟩ := q8_of G.z; obtain ⟨f0, f1, f2, f3, f4, f5, f6, f7⟩ := f8_of G.z) | (replace G := G.later q6; clear q6 z0 z1 z2 z3 z4 z5 z6 z7 f0 f1 f2 f3 f4 f5 f6 f7; obtain ⟨z0, z1, z2, z3, z4, z5, z6, z7⟩ := q8_of G.z; obtain ⟨f0, f1, f2, f3, f4, f5, f6, f7⟩ := f8_of G.z))
        | (go_at_call 17; (with_reducible refine (HRC.out _).mono ?_); rintro e w7 ⟨rfl, q7⟩; first | (replace F := F.later q7; clear q7) | (have G := gz_new _ q7; clear q7; obtain ⟨z0, z1, z2, z3, z4, z5, z6, z7⟩ := q8_of G.z; obtain ⟨f0, f1, f2, f3, f4, f5, f6, f7⟩ := f8_of G.z) | (replace G := G.later q7; clear q7 z0 z1 z2 z3 z4 z5 z6 z7 f0 f1 f2 f3 f4 f5 f6 f7; obtain ⟨z0, z1, z2, z3, z4, z5, z6, z7⟩ := q8_of G.z; obtain ⟨f0, f1, f2, f3, f4, f5, f6, f7⟩ := f8_of G.z)))
    · have HR := Lib.hid (And.intro (F.later (al w7 (rqO x))) (heap_alloc_new w7 (rqO x)))
      clear F P0
      go_wp2_with fail
      go_meet
      exact ⟨_, rfl, rfl, HR⟩
    all_goals
      have HR := Lib.hid (And.intro (F.later (G.put x)) (putq_at G.z x))
      clear F G P0 z0 z1 z2 z3 z4 z5 z6 z7 f0 f1 f2 f3 f4 f5 f6 f7
      go_wp2_with fail
      go_meet
      exact ⟨_, rfl, rfl, HR⟩
  case rest =>
    clear F F0 HRW HRE HRC
    obtain ⟨Y, rfl, rfl, HR⟩ := hcut
    obtain ⟨F, hY⟩ := HR.out
    clear HR
    generalize wc = V at *
    obtain ⟨b0, b1, b2, b3, b4, b5, b6⟩ := b7_of F.hs.hb.rc
    go_upto_region 10 with (go_at_call 19; go_must (with_reducible refine (HCM.out _ F.hs.rk).mono ?_); rintro e w5 ⟨rfl, x5, k5⟩)
    have S5 := HW.out V w5 _ F.ab k5 x5
    have hY5 := k5.heap (fun e => by have h1 : V.heap[X]? = _ := F.hs.rk; simp only [List.mem_singleton] at e; rw [e, h1] at hY; simp at hY) hY
    clear F hY x5 k5 HW HCM b0 b1 b2 b3 b4 b5 b6
    unfold RetL at HLT
    go_upto_region 11 with (go_at_call 20; go_must (with_reducible refine (HLT.out _ _ S5 HX.out _).mono ?_); rintro e w6 ⟨v, rfl, o6, b6⟩; obtain ⟨a6, c6, rfl, hsl6, _⟩ := sls_of_own o6)
    have S6 := S5.later b6
    have hY6 := (b6.block _ (lt_of_block hY5)).trans hY5
    clear S5 hY5 b6 o6 HLT
    obtain ⟨y0, y1, y2, y3, y4, y5, y6, y7⟩ := q8_of hY6
    have k0 := (sb4_of S6.kb).1
    have HRQ' := Lib.hid (HRQ.out x HX.out now)
    unfold RetT at HRL
    have HRL' := Lib.hid (fun W (h : RcA W a m cap (N.map (·.2))) => HRL.out W x h HX.out now)
    clear HRL HRQ
    generalize lt1 x.order (x.rtt + hld win) now L [] = R0 at *
    obtain ⟨l0, nx, ok⟩ := R0
    dsimp only at *
    go_upto_region 12 with (go_at_call 21; go_must (with_reducible refine (HRL'.out _ S6.ra).mono ?_); rintro e w7 ⟨a7, n7, c7, rfl, hsl7, b7⟩)
    have hb7 := S6.hb.below.trans (b7.mono S6.hb.below.size)
    have HSM := Lib.hid (show Calls Try.prog 22 #[.slice a6 l0.length c6, .slice a7 n7 c7] w7 fun e w' => e = .returned (.bool true) ∧ Below w7.heap.size w7 w' from by
      have := rsame_any (hsl6.later b7) hsl7
      simpa using this)
    clear S6 hY6 y0 y1 y2 y3 y4 y5 y6 y7 k0 hsl6 hsl7 b7 HRL'
    obtain ⟨u1, u2⟩ := HRQ'.out
    clear HRQ'
    cases ok with
    | false =>
      have e0 := u1 rfl
      subst e0
      clear u1 u2
      go_wp2_with (first
        | (go_at_call 22; go_must (with_reducible refine HSM.out.mono ?_); rintro e w8 ⟨rfl, b8⟩; have hb8 := hb7.trans (b8.mono hb7.size); clear hb7 b8)
        | (go_at_call 8; go_must (with_reducible refine (rk.known_b hb8).mono ?_); clear hb8; rintro e w9 ⟨rfl, hb⟩))
      go_ret
      exact ⟨rfl, hb⟩
    | true =>
      have e0 := u2 rfl
      clear u1 u2
      go_wp2_with (first
        | (go_at_call 22; go_must (with_reducible refine HSM.out.mono ?_); rintro e w8 ⟨rfl, b8⟩; have hb8 := hb7.trans (b8.mono hb7.size); clear hb7 b8)
        | (go_at_call 8; go_must (with_reducible refine (rk.known_b hb8).mono ?_); clear hb8; rintro e w9 ⟨rfl, hb⟩))
      go_ret
      exact ⟨rfl, hb⟩
end Go.Proofs.Ytpoifoanigpncaa.rk
