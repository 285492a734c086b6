/-
  Several texts in one: CavT CavU SpnX SpnW SpnM SpnP SpnR App Own BokW BokL BokM BokG BokI
-/
import Derived.Test.YtohpaoleomcimaaGreatProg
import Derived.Laws.StructEq
import Derived.Deep.DrawnRows
import Derived.WalkSpells
import Derived.OwnWalkIn
import Derived.StillTailTactics
import Derived.RangeFuncWrites
import Derived.Shelf.Abstract
import Derived.Shelf.RegionOpen
import Derived.WalkKit
import Derived.TacticsInMore
import Derived.LoopNIn
import Derived.LoopIn
import Derived.Test.YtohpaoleomcimaaGreatM1
/-!   Package avl: what a tree does.
-/
namespace Go.Proofs.YtohpaoleomcimaaGreat.cv
open Go.RowKit aid mem
attribute [local go_sem ↓] Go.wp_at_zero Go.wp_at_succ
set_option linter.unusedVariables false

/-- block b is a tree's, with what lies below it -/
def TrAt (w : World) (b : Nat) (t : T) : Prop := ∃ q, w.heap[b]? = some (.cells #[.pointer q] 133 (0, 0)) ∧ NdAt w q t
theorem TrAt.later {w w' : World} {b : Nat} {t : T} (h : TrAt w b t) (hb : Below w.heap.size w w') : TrAt w' b t := by
  obtain ⟨q, h1, h2⟩ := h
  exact ⟨q, (hb.block b (lt_of_block h1)).trans h1, h2.later hb⟩
theorem TrAt.lt {w : World} {b : Nat} {t : T} (h : TrAt w b t) : b < w.heap.size := by obtain ⟨q, h1, _⟩ := h; exact lt_of_block h1
/-- a tree that is not the one that was written stays as it was -/
theorem TrAt.keep {w w' : World} {b c : Nat} {t u : T} (h : TrAt w b t) (hc : TrAt w c u) (hk : Kept [c] w w') (hn : b ≠ c) : TrAt w' b t := by
  obtain ⟨q, h1, h2⟩ := h
  obtain ⟨q', h3, _⟩ := hc
  refine ⟨q, hk.heap (by simpa using hn) h1, h2.keepT (fun x cs hx => ?_)⟩
  refine hk.block x (lt_of_block hx) ?_
  simp only [List.mem_singleton]
  rintro rfl
  rw [h3] at hx
  simp at hx
/-- where a pointer leads: to a tree; or it is none -/
def TrO (w : World) (p : Option Addr) (t : T) : Prop := (p = none ∧ t = .nil) ∨ ∃ b, p = some ⟨b, 0, none⟩ ∧ TrAt w b t
theorem TrAt.o {w : World} {b : Nat} {t : T} (h : TrAt w b t) : TrO w (some ⟨b, 0, none⟩) t := .inr ⟨b, rfl, h⟩
theorem trO_none (w : World) : TrO w none .nil := .inl ⟨rfl, rfl⟩

theorem top_any {w : World} {p : Option Addr} {t : T} (h : TrO w p t) : Calls Tryz.prog 88 #[.pointer p] w fun e w' => ∃ q, e = .returned (.pointer q) ∧ NdAt w q t ∧ w = w' := by
  rcases h with ⟨rfl, rfl⟩ | ⟨b, rfl, q, h1, h2⟩
  · go_enter Tryz.func88, Tryz.ntmps88
    go_wp2
    go_ret
    exact ⟨none, rfl, rfl, rfl⟩
  · have c0 : w.cell? ⟨b, 0, none⟩ = some (.pointer q) := (cell_of_row w b 0 _ _ (0, 0) h1).trans rfl
    have HN := Lib.hid h2
    clear h2
    go_enter Tryz.func88, Tryz.ntmps88
    go_wp2
    go_ret
    exact ⟨q, rfl, HN.out, rfl⟩

theorem new_any (w : World) : Calls Tryz.prog 49 #[] w fun e w' => e = .returned (.pointer (some ⟨w.heap.size, 0, none⟩)) ∧ TrAt w' w.heap.size .nil ∧ Below w.heap.size w w' := by
  have h1 : TrAt (w.alloc (.cells #[.pointer none] 133)) w.heap.size .nil := ⟨none, heap_alloc_new w _, rfl⟩
  have H1 := Lib.hid h1
  clear h1
  go_enter Tryz.func49, Tryz.ntmps49
  go_wp2
  go_ret
  exact ⟨rfl, H1.out, bal' _⟩

theorem tlen_any {w : World} {p : Option Addr} {t : T} (h : TrO w p t) : Calls Tryz.prog 56 #[.pointer p] w fun e w' => e = .returned (.int .i64 (t.size : Int)) ∧ w = w' := by
  have H := Lib.hid h
  clear h
  go_enter Tryz.func56, Tryz.ntmps56
  go_wp2_with (first
    | (go_at_call 88; (with_reducible refine (top_any H.out).mono ?_); rintro e w' ⟨q, rfl, hq, rfl⟩)
    | (go_at_call 89; (with_reducible refine (count_any hq).mono ?_); rintro e w' ⟨rfl, rfl⟩))
  go_ret
  exact ⟨rfl, rfl⟩
/-- a tree's root is set -/
theorem set_root {w : World} {b : Nat} {q q' : Option Addr} {t' : T} (h : w.heap[b]? = some (.cells #[.pointer q] 133 (0, 0))) (hq : NdAt w q' t') : TrAt (w.setCell ⟨b, 0, none⟩ (.pointer q')) b t' := by
  refine ⟨q', (heap_setCell_same _ b 0 _ _ _ h).trans rfl, hq.keepT (fun x cs hx => ?_)⟩
  refine Below.heap_setCell w ⟨b, 0, none⟩ _ x ?_
  rintro rfl
  rw [h] at hx
  simp at hx

set_option maxHeartbeats 1000000 in
theorem put_any {w : World} {b : Nat} {t : T} (k : Int) (v : Vt) (h : TrAt w b t) (hs : t.size ≤ 900000) :
    Calls Tryz.prog 51 #[.pointer (some ⟨b, 0, none⟩), .int .i64 k, .pointer v] w fun e w' => e = .returned (.bool (decide (t.size < (T.ins k v t).size))) ∧ TrAt w' b (T.ins k v t) ∧ Kept [b] w w' := by
  obtain ⟨q, h1, h2⟩ := h
  have c0 : w.cell? ⟨b, 0, none⟩ = some (.pointer q) := (cell_of_row w b 0 _ _ (0, 0) h1).trans rfl
  have HT : Hid (TrO w (some ⟨b, 0, none⟩) t) := Lib.hid (TrAt.o ⟨q, h1, h2⟩)
  have HW := Lib.hid (with_any k v t h2 hs)
  have H1 := Lib.hid h1
  generalize T.ins k v t = t' at *
  clear h1 h2
  go_enter Tryz.func51, Tryz.ntmps51
  go_wp2_with (first
    | (go_at_call 56; (with_reducible refine (tlen_any HT.out).mono ?_); rintro e w' ⟨rfl, rfl⟩)
    | (go_at_call 85; (with_reducible refine HW.out.mono ?_); rintro e w1 ⟨q', rfl, hq', hb⟩; have d1 := ck hb c0; have H2 := Lib.hid ((hb.block b (lt_of_block H1.out)).trans H1.out); have g1 : w1.frozen? ⟨b, 0, none⟩ = false := (by simp [World.frozen?, H2.out]); have HN := Lib.hid (set_root H2.out hq'); clear hq' c0)
    | (go_at_call 56; (with_reducible refine (tlen_any HN.out.o).mono ?_); rintro e w' ⟨rfl, rfl⟩))
  go_ret
  exact ⟨ret_b (by simp), HN.out, ((Kept.of_below hb (Nat.le_refl _) [b]).trans ((Kept.refl [b] w1).setCell (.inl (by simp)) _) (by simp))⟩

set_option maxHeartbeats 1000000 in
theorem delete_any {w : World} {b : Nat} {t : T} (k : Int) (h : TrAt w b t) (hs : t.size ≤ 900000) :
    Calls Tryz.prog 64 #[.pointer (some ⟨b, 0, none⟩), .int .i64 k] w fun e w' => e = .returned (.bool (decide ((T.del k t).size < t.size))) ∧ TrAt w' b (T.del k t) ∧ Kept [b] w w' := by
  obtain ⟨q, h1, h2⟩ := h
  have c0 : w.cell? ⟨b, 0, none⟩ = some (.pointer q) := (cell_of_row w b 0 _ _ (0, 0) h1).trans rfl
  have HT : Hid (TrO w (some ⟨b, 0, none⟩) t) := Lib.hid (TrAt.o ⟨q, h1, h2⟩)
  have HW := Lib.hid (without_any t k h2 hs)
  have H1 := Lib.hid h1
  generalize T.del k t = t' at *
  clear h1 h2
  go_enter Tryz.func64, Tryz.ntmps64
  go_wp2_with (first
    | (go_at_call 56; (with_reducible refine (tlen_any HT.out).mono ?_); rintro e w' ⟨rfl, rfl⟩)
    | (go_at_call 101; (with_reducible refine HW.out.mono ?_); rintro e w1 ⟨q', rfl, hq', hb⟩; have d1 := ck hb c0; have H2 := Lib.hid ((hb.block b (lt_of_block H1.out)).trans H1.out); have g1 : w1.frozen? ⟨b, 0, none⟩ = false := (by simp [World.frozen?, H2.out]); have HN := Lib.hid (set_root H2.out hq'); clear hq' c0)
    | (go_at_call 56; (with_reducible refine (tlen_any HN.out.o).mono ?_); rintro e w' ⟨rfl, rfl⟩))
  go_ret
  exact ⟨ret_b (by simp), HN.out, ((Kept.of_below hb (Nat.le_refl _) [b]).trans ((Kept.refl [b] w1).setCell (.inl (by simp)) _) (by simp))⟩

theorem put_none (w : World) (k : Int) (v : Vt) : Calls Tryz.prog 51 #[.pointer none, .int .i64 k, .pointer v] w fun e w' => e = .returned (.bool false) ∧ w = w' := by
  go_enter Tryz.func51, Tryz.ntmps51
  go_wp2_with fail
  go_ret
  exact ⟨rfl, rfl⟩
theorem delete_none (w : World) (k : Int) : Calls Tryz.prog 64 #[.pointer none, .int .i64 k] w fun e w' => e = .returned (.bool false) ∧ w = w' := by
  go_enter Tryz.func64, Tryz.ntmps64
  go_wp2_with fail
  go_ret
  exact ⟨rfl, rfl⟩
/-- a node of the bigger or none: a node (floor, ceil) -/
def RetNB (o : Option (Int × Vt)) (w : World) (e : Ending) (w' : World) : Prop := ∃ q, e = .returned (.pointer q) ∧ NodeOf w' q o ∧ Below w.heap.size w w'

set_option maxRecDepth 100000 in
set_option maxHeartbeats 4000000 in
theorem floor_any {t : T} {p : Option Addr} {w : World} (h : NdAt w p t) (key : Int) (hu : T.Up t.toL) :
    Calls Tryz.prog 127 #[.pointer p, .int .i64 key] w (RetNB (flL t.toL key) w) := by
  have HN := Lib.hid h
  have HU := Lib.hid hu
  obtain ⟨o, ho⟩ : ∃ o, o = flL t.toL key := ⟨_, rfl⟩
  rw [← ho]
  have HO : Hid (o = (flL t.toL key).or none) := Lib.hid (by rw [ho]; simp)
  clear ho h hu
  go_enter Tryz.func127, Tryz.ntmps127
  go_wp2
  go_loopg [0, 5] t.size (fun n s0 s5 wr => ∃ (t' : T) (p' q' : Option Addr) (o' : Option (Int × Vt)), s0 = .pointer p' ∧ s5 = .pointer q' ∧ t'.size = n ∧ NdAt wr p' t' ∧ NodeOf wr q' o' ∧ Hid (T.Up t'.toL) ∧ Hid (o = (flL t'.toL key).or o') ∧ Below w.heap.size w wr)
  case atStart => exact ⟨t, p, none, none, rfl, rfl, rfl, HN.out, rfl, HU, HO, Below.refl _ _⟩
  case round =>
    clear HN HO HU
    obtain ⟨t', p', q', o', rfl, rfl, rfl, hn, hq, HU, HO, hB⟩ := hrel
    cases t' with
    | nil =>
      obtain rfl : p' = none := hn
      have HQ := Lib.hid hq
      clear hq
      go_wp2
      go_ret
      exact ⟨q', rfl, by rw [HO.out]; exact HQ.out, hB⟩
    | node l k v r =>
      obtain ⟨b, pl, pr, rfl, hb, hl, hr⟩ := hn
      obtain ⟨c0, c1, c2, c3, _, _⟩ := cs_of hb
      have HL := Lib.hid hl
      have HR := Lib.hid hr
      have HQ := Lib.hid hq
      have hup := T.up_node.1 HU.out
      have HUL := Lib.hid hup.1
      have HUR := Lib.hid hup.2.1
      clear hup
      have HA := Lib.hid (show key < k → flL (T.node l k v r).toL key = flL l.toL key from fun hk => fl_hi HU.out hk)
      have HB := Lib.hid (show k ≤ key → flL (T.node l k v r).toL key = (flL r.toL key).or (some (k, v)) from fun hk => fl_lo hk)
      have HZ : Hid ((T.node l k v r).size = l.size + 1 + r.size) := Lib.hid rfl
      clear hb hl hr hq
      by_cases hk : key < k
      · have HE := Lib.hid (HA.out hk)
        go_wp2
        go_roundg l.size
        case measure => rw [HZ.out]; omega
        case rel => exact ⟨l, pl, q', o', rfl, rfl, rfl, HL.out, HQ.out, HUL, Lib.hid (by rw [HO.out, HE.out]), hB⟩
      · have HE := Lib.hid (HB.out (by omega))
        go_wp2
        go_quiet (fail)
        go_wp2
        have hb2 := below_drewN wr nq
        go_roundg r.size
        case measure => rw [HZ.out]; omega
        case rel => exact ⟨r, pr, some ⟨b, 0, none⟩, some (k, v), rfl, rfl, rfl, HR.out.later hb2, ⟨b, rfl, ck hb2 c0, ck hb2 c1⟩, HUR, Lib.hid (by rw [HO.out, HE.out]; cases flL r.toL key <;> rfl), hB.trans (hb2.mono hB.size)⟩

end Go.Proofs.YtohpaoleomcimaaGreat.cv
/-!   Package avl: what is asked of a tree; the fixed calls of layer 8's law.
-/
namespace Go.Proofs.YtohpaoleomcimaaGreat.cv
open Go.RowKit aid mem
attribute [local go_sem ↓] Go.wp_at_zero Go.wp_at_succ
set_option linter.unusedVariables false

/-- three results -/
def tupO : Option (Int × Vt) → Value
  | none => .tuple #[.int .i64 0, .pointer none, .bool false]
  | some x => .tuple #[.int .i64 x.1, .pointer x.2, .bool true]
set_option maxHeartbeats 1000000 in
theorem told_node {w : World} {q : Option Addr} {o : Option (Int × Vt)} (h : NodeOf w q o) :
    Calls Tryz.prog 106 #[.pointer q] w fun e w' => e = .returned (tupO o) ∧ Below w.heap.size w w' := by
  cases o with
  | none =>
    obtain rfl : q = none := h
    go_enter Tryz.func106, Tryz.ntmps106
    go_wp2
    refine bodyPost_ret (v := .tuple #[.int .i64 0, .pointer none, .bool false]) (by simp [results, Tryz.results106, go_sem]) rfl ⟨rfl, Below.refl _ _⟩
  | some x =>
    obtain ⟨b, rfl, c0, c1⟩ := h
    go_enter Tryz.func106, Tryz.ntmps106
    go_wp2
    go_quiet (fail)
    go_wp2
    refine bodyPost_ret (v := .tuple #[.int .i64 x.1, .pointer x.2, .bool true]) (by simp [results, Tryz.results106, go_sem]) rfl ⟨rfl, below_drewN w nq⟩

/-! GEN -/
set_option maxHeartbeats 1000000 in
theorem tfloor_any {w : World} {p : Option Addr} {t : T} (h : TrO w p t) (key : Int) (hu : T.Up t.toL) : Calls Tryz.prog 103 #[.pointer p, .int .i64 key] w fun e w' => e = .returned (tupO (flL t.toL key)) ∧ Below w.heap.size w w' := by
  have H := Lib.hid h
  have HU := Lib.hid hu
  clear hu
  clear h
  generalize hO : flL t.toL key = o
  have HO := Lib.hid hO
  clear hO
  cases o with
  | none =>
    go_enter Tryz.func103, Tryz.ntmps103
    go_wp2_with (first
      | (go_at_call 88; (with_reducible refine (top_any H.out).mono ?_); rintro e w' ⟨q, rfl, hq, rfl⟩; have HF := Lib.hid (floor_any hq key HU.out); rw [HO.out] at HF; clear hq)
      | (go_at_call 127; (with_reducible refine HF.out.mono ?_); rintro e w2 ⟨q2, rfl, hq2, hb2⟩; have HQ := Lib.hid hq2; clear hq2)
      | (go_at_call 106; (with_reducible refine (told_node HQ.out).mono ?_); rintro e w3 ⟨rfl, hb3⟩; unfold tupO))
    refine bodyPost_ret (v := .tuple #[.int .i64 0, .pointer none, .bool false]) (by simp [results, Tryz.results103, go_sem]) rfl ⟨rfl, hb2.trans (hb3.mono hb2.size)⟩
  | some x =>
    go_enter Tryz.func103, Tryz.ntmps103
    go_wp2_with (first
      | (go_at_call 88; (with_reducible refine (top_any H.out).mono ?_); rintro e w' ⟨q, rfl, hq, rfl⟩; have HF := Lib.hid (floor_any hq key HU.out); rw [HO.out] at HF; clear hq)
      | (go_at_call 127; (with_reducible refine HF.out.mono ?_); rintro e w2 ⟨q2, rfl, hq2, hb2⟩; have HQ := Lib.hid hq2; clear hq2)
      | (go_at_call 106; (with_reducible refine (told_node HQ.out).mono ?_); rintro e w3 ⟨rfl, hb3⟩; unfold tupO))
    refine bodyPost_ret (v := .tuple #[.int .i64 x.1, .pointer x.2, .bool true]) (by simp [results, Tryz.results103, go_sem]) rfl ⟨rfl, hb2.trans (hb3.mono hb2.size)⟩

set_option maxHeartbeats 1000000 in
theorem tat_any {w : World} {p : Option Addr} {t : T} (h : TrO w p t) (i : Int) (hi : -9223372036854775808 ≤ i ∧ i ≤ 9223372036854775807) (hs : t.size ≤ 1000000) : Calls Tryz.prog 72 #[.pointer p, .int .i64 i] w fun e w' => e = .returned (tupO (atL t.toL i)) ∧ Below w.heap.size w w' := by
  have H := Lib.hid h
  clear h
  generalize hO : atL t.toL i = o
  have HO := Lib.hid hO
  clear hO
  cases o with
  | none =>
    go_enter Tryz.func72, Tryz.ntmps72
    go_wp2_with (first
      | (go_at_call 88; (with_reducible refine (top_any H.out).mono ?_); rintro e w' ⟨q, rfl, hq, rfl⟩; have HF := Lib.hid (at_any hq i hi hs); rw [HO.out] at HF; clear hq)
      | (go_at_call 105; (with_reducible refine HF.out.mono ?_); rintro e w2 ⟨q2, rfl, hq2, rfl⟩; have HQ := Lib.hid hq2; clear hq2)
      | (go_at_call 106; (with_reducible refine (told_node HQ.out).mono ?_); rintro e w3 ⟨rfl, hb3⟩; unfold tupO))
    refine bodyPost_ret (v := .tuple #[.int .i64 0, .pointer none, .bool false]) (by simp [results, Tryz.results72, go_sem]) rfl ⟨rfl, hb3⟩
  | some x =>
    go_enter Tryz.func72, Tryz.ntmps72
    go_wp2_with (first
      | (go_at_call 88; (with_reducible refine (top_any H.out).mono ?_); rintro e w' ⟨q, rfl, hq, rfl⟩; have HF := Lib.hid (at_any hq i hi hs); rw [HO.out] at HF; clear hq)
      | (go_at_call 105; (with_reducible refine HF.out.mono ?_); rintro e w2 ⟨q2, rfl, hq2, rfl⟩; have HQ := Lib.hid hq2; clear hq2)
      | (go_at_call 106; (with_reducible refine (told_node HQ.out).mono ?_); rintro e w3 ⟨rfl, hb3⟩; unfold tupO))
    refine bodyPost_ret (v := .tuple #[.int .i64 x.1, .pointer x.2, .bool true]) (by simp [results, Tryz.results72, go_sem]) rfl ⟨rfl, hb3⟩

/-! NEG -/
/-- a key's value -/
def getL (l : Ps) (key : Int) : Option Vt := (l.find? (fun x => x.1 == key)).map (·.2)
theorem find_none {l : Ps} {k : Int} (h : ∀ x ∈ l, x.1 ≠ k) : l.find? (fun x => x.1 == k) = none := List.find?_eq_none.2 (fun x hx => by simpa using h x hx)
theorem get_fl {l : Ps} {key : Int} (h : T.Up l) : getL l key = match flL l key with | none => none | some x => if x.1 = key then some x.2 else none := by
  unfold getL
  induction l with
  | nil => rfl
  | cons y q ih =>
    obtain ⟨k, v⟩ := y
    have h2 := List.pairwise_cons.1 h
    rw [List.find?_cons]
    by_cases hk : k ≤ key
    · have e := fl_lo (l := []) (r := q) (v := v) hk
      rw [List.nil_append] at e
      rw [e]
      by_cases he : k = key
      · subst he
        simp only [beq_self_eq_true]
        have : flL q k = none := by
          unfold flL
          rw [List.filter_eq_nil_iff.2 (fun x hx => by have := h2.1 x hx; simp; omega)]
          rfl
        rw [this]
        simp
      · rw [show ((k, v).1 == key) = false from by simpa using he]
        simp only
        rw [ih h2.2]
        cases flL q key <;> simp [he]
    · have e := fl_hi (l := []) (r := q) (v := v) (k := k) (key := key) h (by omega)
      rw [List.nil_append] at e
      rw [e]
      rw [show ((k, v).1 == key) = false from by simp; omega]
      simp only
      rw [find_none (fun x hx => by have := h2.1 x hx; simp at this; omega)]
      rfl
/-- two results -/
def tup2 : Option Vt → Value
  | none => .tuple #[.pointer none, .bool false]
  | some x => .tuple #[.pointer x, .bool true]
set_option maxHeartbeats 1000000 in
theorem get_any {w : World} {p : Option Addr} {t : T} (h : TrO w p t) (key : Int) (hu : T.Up t.toL) : Calls Tryz.prog 69 #[.pointer p, .int .i64 key] w fun e w' => e = .returned (tup2 (getL t.toL key)) ∧ Below w.heap.size w w' := by
  have HF := Lib.hid (tfloor_any h key hu)
  have HG := Lib.hid (get_fl (key := key) hu)
  clear h hu
  generalize flL t.toL key = o at *
  generalize getL t.toL key = g at *
  cases o with
  | none =>
    obtain rfl : g = none := HG.out
    clear HG
    go_enter Tryz.func69, Tryz.ntmps69
    go_wp2_with (go_at_call 103; (with_reducible refine HF.out.mono ?_); rintro e w2 ⟨rfl, hb2⟩; unfold tupO)
    refine bodyPost_ret (v := .tuple #[.pointer none, .bool false]) (by simp [results, Tryz.results69, go_sem]) rfl ⟨rfl, hb2⟩
  | some x =>
    obtain ⟨k, v⟩ := x
    by_cases hk : k = key
    · subst hk
      obtain rfl : g = some v := by rw [HG.out]; simp
      clear HG
      go_enter Tryz.func69, Tryz.ntmps69
      go_wp2_with (go_at_call 103; (with_reducible refine HF.out.mono ?_); rintro e w2 ⟨rfl, hb2⟩; unfold tupO)
      refine bodyPost_ret (v := .tuple #[.pointer v, .bool true]) (by simp [results, Tryz.results69, go_sem]) rfl ⟨rfl, hb2⟩
    · obtain rfl : g = none := by rw [HG.out]; simp [hk]
      clear HG
      have hd : (k == key) = false := by simpa using hk
      go_enter Tryz.func69, Tryz.ntmps69
      go_wp2_with (go_at_call 103; (with_reducible refine HF.out.mono ?_); rintro e w2 ⟨rfl, hb2⟩; unfold tupO)
      refine bodyPost_ret (v := .tuple #[.pointer none, .bool false]) (by simp [results, Tryz.results69, go_sem]) rfl ⟨rfl, hb2⟩

theorem ins_up {t : T} (k : Int) (v : Vt) (h : T.Up t.toL) : T.Up (T.ins k v t).toL := by rw [T.ins_toL k v t h]; exact T.putL_up h
theorem del_up {t : T} (k : Int) (h : T.Up t.toL) : T.Up (T.del k t).toL := by rw [T.del_toL k t h]; exact T.delL_up h
end Go.Proofs.YtohpaoleomcimaaGreat.cv
/-!   Spans as pairs of numbers. Imports nothing of the program.
-/
namespace Go.Proofs.YtohpaoleomcimaaGreat.sp
set_option linter.unusedVariables false

def mayB (f t : Int) : Bool := decide (0 ≤ f) && decide (f ≤ t) && decide (t ≤ 4611686018427387904)
theorem mayB_iff {f t : Int} : mayB f t = true ↔ 0 ≤ f ∧ f ≤ t ∧ t ≤ 4611686018427387904 := by
  unfold mayB
  simp [and_assoc]
def fitP (f t : Int) : Int × Int := if mayB f t = true then (f, t) else (0, 0)
def betw (a b : Int) : Int × Int := if b ≤ a then (0, 0) else (a, b)
/-- 0 ≤ From ≤ To ≤ MaxOff -/
def Ok (p : Int × Int) : Prop := 0 ≤ p.1 ∧ p.1 ≤ p.2 ∧ p.2 ≤ 4611686018427387904
theorem fit_ok (f t : Int) : Ok (fitP f t) := by
  unfold fitP Ok
  split
  · exact mayB_iff.1 (by assumption)
  · simp
theorem fit_self {f t : Int} (h : Ok (f, t)) : fitP f t = (f, t) := by
  unfold fitP; rw [if_pos (mayB_iff.2 h)]
theorem betw_ok {a b : Int} (h0 : 0 ≤ a) (h1 : b ≤ 4611686018427387904) : Ok (betw a b) := by
  unfold betw Ok
  split <;> simp <;> omega

def lenI (s : Int × Int) : Int := (fitP s.1 s.2).2 - (fitP s.1 s.2).1
def hasB (s : Int × Int) (o : Int) : Bool := decide ((fitP s.1 s.2).1 ≤ o) && decide (o < (fitP s.1 s.2).2)
def meetP (s t : Int × Int) : Int × Int := betw (max (fitP s.1 s.2).1 (fitP t.1 t.2).1) (min (fitP s.1 s.2).2 (fitP t.1 t.2).2)
def touchB (s t : Int × Int) : Bool := decide (lenI s ≠ 0) && decide (lenI t ≠ 0) && decide (s.1 ≤ t.2) && decide (t.1 ≤ s.2)
def holdsB (s t : Int × Int) : Bool := decide (lenI t = 0) || decide (meetP s t = t)
def belowP (s : Int × Int) (o : Int) : Int × Int := betw (fitP s.1 s.2).1 (min (fitP s.1 s.2).2 o)
def fromP (s : Int × Int) (o : Int) : Int × Int := betw (max (fitP s.1 s.2).1 o) (fitP s.1 s.2).2
def widerP (h s : Int × Int) : Int × Int := if lenI s = 0 then h else if h = (0, 0) then s else (min h.1 s.1, max h.2 s.2)
def hullP (l : List (Int × Int)) : Int × Int := l.foldl widerP (0, 0)
def cmpI (s t : Int × Int) : Int := if s = t then 0 else if s.1 < t.1 ∨ (s.1 = t.1 ∧ s.2 < t.2) then -1 else 1
/-- a span that counts -/
def ofP (s : Int × Int) : Int × Int := if mayB s.1 s.2 = true ∧ s.1 ≠ s.2 then s else (0, 0)

theorem lenI_bd (s : Int × Int) : 0 ≤ lenI s ∧ lenI s ≤ 4611686018427387904 := by
  have := fit_ok s.1 s.2
  unfold Ok at this
  unfold lenI
  omega
theorem of_ok (s : Int × Int) : Ok (ofP s) := by
  unfold ofP Ok
  split
  · exact mayB_iff.1 (by rename_i h; exact h.1)
  · simp
theorem of_cases (s : Int × Int) : (ofP s = s ∧ Ok s ∧ s.1 < s.2 ∧ fitP s.1 s.2 = s) ∨ (ofP s = (0, 0) ∧ lenI s = 0 ∧ (fitP s.1 s.2).1 = (fitP s.1 s.2).2) := by
  unfold ofP lenI fitP
  by_cases h : mayB s.1 s.2 = true
  · have h' := mayB_iff.1 h
    by_cases h2 : s.1 = s.2
    · right
      rw [if_neg (by intro x; exact x.2 h2), if_pos h]
      simp; omega
    · left
      rw [if_pos ⟨h, h2⟩, if_pos h]
      exact ⟨rfl, h', by omega, rfl⟩
  · right
    rw [if_neg (by intro x; exact h x.1), if_neg h]
    simp
theorem len_of (s : Int × Int) : (ofP s).2 - (ofP s).1 = lenI s := by
  rcases of_cases s with ⟨h, _, _, hf⟩ | ⟨h, hl, _⟩
  · rw [h]; unfold lenI; rw [hf]
  · rw [h, hl]; rfl
theorem has_of (s : Int × Int) (o : Int) : (decide ((ofP s).1 ≤ o) && decide (o < (ofP s).2)) = hasB s o := by
  unfold hasB
  rcases of_cases s with ⟨h, _, _, hf⟩ | ⟨h, hl, he⟩
  · rw [h, hf]
  · rw [h, Bool.eq_iff_iff]; simp; omega
theorem meet_ok (s t : Int × Int) : Ok (meetP s t) := by
  have h1 := fit_ok s.1 s.2
  have h2 := fit_ok t.1 t.2
  unfold Ok at h1 h2
  exact betw_ok (by omega) (by omega)
/-- the reference's Meet -/
def rmeetP (s t : Int × Int) : Int × Int :=
  ofP (if (ofP s).1 < (ofP t).1 then (ofP t).1 else (ofP s).1, if (ofP t).2 < (ofP s).2 then (ofP t).2 else (ofP s).2)
theorem of_betw {a b : Int} (h0 : 0 ≤ a) (h1 : b ≤ 4611686018427387904) : ofP (a, b) = betw a b := by
  unfold ofP betw
  by_cases h : b ≤ a
  · rw [if_pos h]
    split
    · rename_i hx
      have := mayB_iff.1 hx.1
      have := hx.2
      simp at *
      omega
    · rfl
  · rw [if_neg h, if_pos ⟨mayB_iff.2 ⟨h0, by simp; omega, h1⟩, by simp; omega⟩]
theorem rmeet_eq (s t : Int × Int) : rmeetP s t = meetP s t := by
  unfold rmeetP meetP
  have hs := of_ok s
  have ht := of_ok t
  have fs := fit_ok s.1 s.2
  have ft := fit_ok t.1 t.2
  unfold Ok at hs ht fs ft
  rw [of_betw (by split <;> omega) (by split <;> omega)]
  unfold betw
  rcases of_cases s with ⟨h, _, _, hf⟩ | ⟨h, hl, he⟩ <;> rcases of_cases t with ⟨k, _, _, kf⟩ | ⟨k, kl, ke⟩ <;> rw [h, k] at *
  all_goals (try rw [hf] at *) <;> (try rw [kf] at *)
  all_goals (repeat' split) <;> first | rfl | (simp at *; omega) | (ext <;> simp at * <;> omega)
end Go.Proofs.YtohpaoleomcimaaGreat.sp
/-!   Package span: what each call does.
-/
namespace Go.Proofs.YtohpaoleomcimaaGreat.sp
open Go.RowKit aid mem
attribute [local go_sem ↓] Go.wp_at_zero Go.wp_at_succ
set_option linter.unusedVariables false

theorem bal {w : World} (o : Obj) : Below w.heap.size w (w.alloc o) := (Below.refl _ _).alloc (Nat.le_refl _) _
/-- the value of a span -/
abbrev spV (s : Int × Int) : Value := .agg #[.int .i64 s.1, .int .i64 s.2]
/-- block B holds a span -/
def SpAt (w : World) (B : Nat) (s : Int × Int) : Prop := w.heap[B]? = some (.cells #[.int .i64 s.1, .int .i64 s.2] 24 (0, 0))
theorem SpAt.c0 {w : World} {B : Nat} {s : Int × Int} (h : SpAt w B s) : w.cell? ⟨B, 0, none⟩ = some (.int .i64 s.1) := (cell_of_row w B 0 _ _ (0, 0) h).trans rfl
theorem SpAt.c1 {w : World} {B : Nat} {s : Int × Int} (h : SpAt w B s) : w.cell? ⟨B, 1, none⟩ = some (.int .i64 s.2) := (cell_of_row w B 1 _ _ (0, 0) h).trans rfl
theorem SpAt.f0 {w : World} {B : Nat} {s : Int × Int} (h : SpAt w B s) : w.frozen? ⟨B, 0, none⟩ = false := by simp [World.frozen?, show w.heap[B]? = _ from h]
theorem SpAt.f1 {w : World} {B : Nat} {s : Int × Int} (h : SpAt w B s) : w.frozen? ⟨B, 1, none⟩ = false := by simp [World.frozen?, show w.heap[B]? = _ from h]
theorem SpAt.lt {w : World} {B : Nat} {s : Int × Int} (h : SpAt w B s) : B < w.heap.size := lt_of_block h
theorem SpAt.keep {w w' : World} {B : Nat} {s : Int × Int} (h : SpAt w B s) {S : List Nat} (hk : Kept S w w') (hB : B ∉ S) : SpAt w' B s := hk.heap hB h
theorem SpAt.later {w w' : World} {B : Nat} {s : Int × Int} (h : SpAt w B s) (hk : Below w.heap.size w w') : SpAt w' B s := h.keep (Kept.of_below hk (Nat.le_refl _) []) (by simp)
theorem sp_new (w : World) (s : Int × Int) : SpAt (w.alloc (.cells #[.int .i64 s.1, .int .i64 s.2] 24)) w.heap.size s := heap_alloc_new w _
theorem SpAt.put {w : World} {B : Nat} {s : Int × Int} (h : SpAt w B s) (a b : Int) : SpAt ((w.setCell ⟨B, 0, none⟩ (.int .i64 a)).setCell ⟨B, 1, none⟩ (.int .i64 b)) B (a, b) :=
  (heap_setCell_same _ B 1 _ _ _ (heap_setCell_same _ B 0 _ _ _ h)).trans rfl
theorem kput (w : World) (B : Nat) (u v : Value) : Kept [B] w ((w.setCell ⟨B, 0, none⟩ u).setCell ⟨B, 1, none⟩ v) :=
  ((Kept.refl [B] w).setCell (.inl (by simp)) u).setCell (.inl (by simp)) v
def RetB (b : Bool) (w : World) (e : Ending) (w' : World) : Prop := e = .returned (.bool b) ∧ Below w.heap.size w w'
def RetI (n : Int) (w : World) (e : Ending) (w' : World) : Prop := e = .returned (.int .i64 n) ∧ Below w.heap.size w w'
def RetS (s : Int × Int) (w : World) (e : Ending) (w' : World) : Prop := e = .returned (.agg #[.int .i64 s.1, .int .i64 s.2]) ∧ Below w.heap.size w w'

set_option maxHeartbeats 400000 in
theorem may_any (f t : Int) (w : World) : Calls Tryz.prog 117 #[spV (f, t)] w (RetB (mayB f t) w) := by
  go_enter Tryz.func117, Tryz.ntmps117
  go_wp2
  all_goals
    go_ret
    exact ⟨ret_b (by unfold mayB; simp; omega), bal _⟩

theorem between_any (a b : Int) (w : World) : Calls Tryz.prog 92 #[.int .i64 a, .int .i64 b] w (RetS (betw a b) w) := by
  by_cases h : b ≤ a
  · have H : Hid (betw a b = (0, 0)) := Lib.hid (by unfold betw; rw [if_pos h])
    go_enter Tryz.func92, Tryz.ntmps92
    go_wp2
    refine bodyPost_ret (v := spV (0, 0)) (by simp [results, Tryz.results92, go_sem]) rfl ⟨by rw [H.out], ?_⟩
    exact bal _
  · have H : Hid (betw a b = (a, b)) := Lib.hid (by unfold betw; rw [if_neg h])
    go_enter Tryz.func92, Tryz.ntmps92
    go_wp2
    refine bodyPost_ret (v := spV (a, b)) (by simp [results, Tryz.results92, go_sem]) rfl ⟨by rw [H.out], ?_⟩
    exact bal _

theorem fit_any (s : Int × Int) (w : World) : Calls Tryz.prog 91 #[spV s] w (RetS (fitP s.1 s.2) w) := by
  have b1 := bal (w := w) (.cells #[.int .i64 s.1, .int .i64 s.2] 24)
  have b2 := b1.alloc b1.size (.cells #[.int .i64 0, .int .i64 0] 24)
  have s1 := (sp_new w s).later (bal (.cells #[.int .i64 0, .int .i64 0] 24))
  have s2 := sp_new (w.alloc (.cells #[.int .i64 s.1, .int .i64 s.2] 24)) (0, 0)
  simp only [World.size_alloc] at s2
  cases hm : mayB s.1 s.2 with
  | true =>
    have H : Hid (fitP s.1 s.2 = s) := Lib.hid (by unfold fitP; rw [if_pos hm])
    have HM := Lib.hid hm
    clear hm
    go_enter Tryz.func91, Tryz.ntmps91
    go_wp2_with fail
    refine (may_any s.1 s.2 _).mono ?_
    rintro e w1 ⟨rfl, h1⟩
    rw [HM.out]
    have t1 := s1.later h1
    have t2 := s2.later h1
    have t3 := t2.put s.1 s.2
    have c0 := t1.c0; have c1 := t1.c1; have d0 := t2.c0; have d1 := t2.c1; have f0 := t2.f0; have f1 := t2.f1
    go_wp2
    have e0 := t3.c0; have e1 := t3.c1
    refine bodyPost_ret (v := spV s) (by simp [results, Tryz.results91, go_sem, e0, e1]) rfl ⟨by rw [H.out], ?_⟩
    have hB := b2.trans (h1.mono b2.size)
    exact hB.trans ((kput w1 _ _ _).below (by simp) hB.size)
  | false =>
    have H : Hid (fitP s.1 s.2 = (0, 0)) := Lib.hid (by unfold fitP; rw [if_neg (by rw [hm]; simp)])
    have HM := Lib.hid hm
    clear hm
    go_enter Tryz.func91, Tryz.ntmps91
    go_wp2_with fail
    refine (may_any s.1 s.2 _).mono ?_
    rintro e w1 ⟨rfl, h1⟩
    rw [HM.out]
    have t1 := s1.later h1
    have t2 := s2.later h1
    have t3 := t2.put 0 0
    have c0 := t1.c0; have c1 := t1.c1; have d0 := t2.c0; have d1 := t2.c1; have f0 := t2.f0; have f1 := t2.f1
    go_wp2
    have e0 := t3.c0; have e1 := t3.c1
    refine bodyPost_ret (v := spV (0, 0)) (by simp [results, Tryz.results91, go_sem, e0, e1]) rfl ⟨by rw [H.out], ?_⟩
    have hB := b2.trans (h1.mono b2.size)
    exact hB.trans ((kput w1 _ _ _).below (by simp) hB.size)

theorem len_any (s : Int × Int) (w : World) : Calls Tryz.prog 58 #[spV s] w (RetI (lenI s) w) := by
  have b1 := bal (w := w) (.cells #[.int .i64 s.1, .int .i64 s.2] 24)
  have s1 := sp_new w s
  have hF := fit_any s (w.alloc (.cells #[.int .i64 s.1, .int .i64 s.2] 24))
  have ho := fit_ok s.1 s.2
  have H : Hid (lenI s = (fitP s.1 s.2).2 - (fitP s.1 s.2).1) := Lib.hid rfl
  generalize fitP s.1 s.2 = p at *
  obtain ⟨o1, o2, o3⟩ := ho
  go_enter Tryz.func58, Tryz.ntmps58
  go_wp2_with fail
  refine hF.mono ?_
  rintro e w1 ⟨rfl, h1⟩
  have t1 := s1.later h1
  have t2 := t1.put p.1 p.2
  have c0 := t1.c0; have c1 := t1.c1; have f0 := t1.f0; have f1 := t1.f1
  have d0 := t2.c0; have d1 := t2.c1
  clear hF
  go_wp2
  go_ret
  have hB := b1.trans (h1.mono b1.size)
  exact ⟨by rw [H.out]; rfl, hB.trans ((kput w1 _ _ _).below (by simp) hB.size)⟩

theorem two_new (w : World) (s t : Int × Int) : SpAt ((w.alloc (.cells #[.int .i64 s.1, .int .i64 s.2] 24)).alloc (.cells #[.int .i64 t.1, .int .i64 t.2] 24)) w.heap.size s ∧ SpAt ((w.alloc (.cells #[.int .i64 s.1, .int .i64 s.2] 24)).alloc (.cells #[.int .i64 t.1, .int .i64 t.2] 24)) (w.heap.size + 1) t ∧ Below w.heap.size w ((w.alloc (.cells #[.int .i64 s.1, .int .i64 s.2] 24)).alloc (.cells #[.int .i64 t.1, .int .i64 t.2] 24)) :=
  ⟨(sp_new w s).later (bal _), by simpa using sp_new (w.alloc (.cells #[.int .i64 s.1, .int .i64 s.2] 24)) t, (bal _).alloc (bal _).size _⟩


theorem three_new (w : World) (s t : Int × Int) : SpAt (((w.alloc (.cells #[.int .i64 s.1, .int .i64 s.2] 24)).alloc (.cells #[.int .i64 t.1, .int .i64 t.2] 24)).alloc (.cells #[.int .i64 0, .int .i64 0] 24)) w.heap.size s ∧ SpAt (((w.alloc (.cells #[.int .i64 s.1, .int .i64 s.2] 24)).alloc (.cells #[.int .i64 t.1, .int .i64 t.2] 24)).alloc (.cells #[.int .i64 0, .int .i64 0] 24)) (w.heap.size + 1) t ∧ SpAt (((w.alloc (.cells #[.int .i64 s.1, .int .i64 s.2] 24)).alloc (.cells #[.int .i64 t.1, .int .i64 t.2] 24)).alloc (.cells #[.int .i64 0, .int .i64 0] 24)) (w.heap.size + 1 + 1) (0, 0) ∧ Below w.heap.size w (((w.alloc (.cells #[.int .i64 s.1, .int .i64 s.2] 24)).alloc (.cells #[.int .i64 t.1, .int .i64 t.2] 24)).alloc (.cells #[.int .i64 0, .int .i64 0] 24)) := by
  obtain ⟨h1, h2, h3⟩ := two_new w s t
  exact ⟨h1.later (bal _), h2.later (bal _), by simpa using sp_new ((w.alloc (.cells #[.int .i64 s.1, .int .i64 s.2] 24)).alloc (.cells #[.int .i64 t.1, .int .i64 t.2] 24)) (0, 0), h3.alloc h3.size _⟩

/-- three boxes side by side -/
structure M3 (w0 : World) (B : Nat) (s t u : Int × Int) (w : World) : Prop where
  b0 : SpAt w B s
  b1 : SpAt w (B + 1) t
  b2 : SpAt w (B + 1 + 1) u
  below : Below w0.heap.size w0 w
  le : w0.heap.size ≤ B
theorem M3.later {w0 : World} {B : Nat} {s t u : Int × Int} {w w' : World} (h : M3 w0 B s t u w) (hb : Below w.heap.size w w') : M3 w0 B s t u w' :=
  ⟨h.b0.later hb, h.b1.later hb, h.b2.later hb, h.below.trans (hb.mono h.below.size), h.le⟩
theorem M3.put0 {w0 : World} {B : Nat} {s t u : Int × Int} {w : World} (h : M3 w0 B s t u w) (a b : Int) : M3 w0 B (a, b) t u ((w.setCell ⟨B, 0, none⟩ (.int .i64 a)).setCell ⟨B, 1, none⟩ (.int .i64 b)) :=
  ⟨h.b0.put a b, h.b1.keep (kput w B _ _) (by simp), h.b2.keep (kput w B _ _) (by simp; omega), h.below.trans ((kput w B _ _).below (by simpa using h.le) h.below.size), h.le⟩
theorem M3.put1 {w0 : World} {B : Nat} {s t u : Int × Int} {w : World} (h : M3 w0 B s t u w) (a b : Int) : M3 w0 B s (a, b) u ((w.setCell ⟨B + 1, 0, none⟩ (.int .i64 a)).setCell ⟨B + 1, 1, none⟩ (.int .i64 b)) :=
  ⟨h.b0.keep (kput w (B + 1) _ _) (by simp), h.b1.put a b, h.b2.keep (kput w (B + 1) _ _) (by simp), h.below.trans ((kput w (B + 1) _ _).below (by have := h.le; simp; omega) h.below.size), h.le⟩
theorem M3.put2 {w0 : World} {B : Nat} {s t u : Int × Int} {w : World} (h : M3 w0 B s t u w) (a b : Int) : M3 w0 B s t (a, b) ((w.setCell ⟨B + 1 + 1, 0, none⟩ (.int .i64 a)).setCell ⟨B + 1 + 1, 1, none⟩ (.int .i64 b)) :=
  ⟨h.b0.keep (kput w (B + 1 + 1) _ _) (by simp; omega), h.b1.keep (kput w (B + 1 + 1) _ _) (by simp), h.b2.put a b, h.below.trans ((kput w (B + 1 + 1) _ _).below (by have := h.le; simp; omega) h.below.size), h.le⟩

end Go.Proofs.YtohpaoleomcimaaGreat.sp
/-!   Package span: Meet.
-/
namespace Go.Proofs.YtohpaoleomcimaaGreat.sp
open Go.RowKit aid mem
attribute [local go_sem ↓] Go.wp_at_zero Go.wp_at_succ
set_option linter.unusedVariables false

set_option maxRecDepth 100000 in
set_option maxHeartbeats 1600000 in
theorem meet_any (s t : Int × Int) (w : World) : Calls Tryz.prog 140 #[spV s, spV t] w (RetS (meetP s t) w) := by
  obtain ⟨s1, s2, s3, b1⟩ := three_new w s t
  have H : Hid (meetP s t = betw (max (fitP s.1 s.2).1 (fitP t.1 t.2).1) (min (fitP s.1 s.2).2 (fitP t.1 t.2).2)) := Lib.hid rfl
  have M0 : M3 w w.heap.size s t (0, 0) (((w.alloc (.cells #[.int .i64 s.1, .int .i64 s.2] 24)).alloc (.cells #[.int .i64 t.1, .int .i64 t.2] 24)).alloc (.cells #[.int .i64 0, .int .i64 0] 24)) := ⟨s1, s2, s3, b1, Nat.le_refl _⟩
  clear s1 s2 s3 b1
  go_enter Tryz.func140, Tryz.ntmps140
  go_wp2_with fail
  generalize ((w.alloc (.cells #[.int .i64 s.1, .int .i64 s.2] 24)).alloc (.cells #[.int .i64 t.1, .int .i64 t.2] 24)).alloc (.cells #[.int .i64 0, .int .i64 0] 24) = W at *
  generalize w.heap.size = B at *
  have hp := fit_ok s.1 s.2
  have hq := fit_ok t.1 t.2
  have HF := fit_any s
  have HG := fit_any t
  generalize fitP s.1 s.2 = p at *
  generalize fitP t.1 t.2 = q at *
  have HP := Lib.hid hp
  have HQ := Lib.hid hq
  have HFF := Lib.hid HF
  have HGG := Lib.hid HG
  clear hp hq HF HG
  have M1 := M0.later (Below.refl _ _).drew
  clear M0
  have c0 := M1.b0.c0; have c1 := M1.b0.c1; have d0 := M1.b1.c0; have d1 := M1.b1.c1
  go_region_with (first
    | (go_at_call 91; refine (HFF.out _).mono ?_; rintro e w2 ⟨rfl, h2⟩; have M2 := M1.later h2; clear M1 h2 c0 c1 d0 d1; have d0 := M2.b1.c0; have d1 := M2.b1.c1)
    | (go_at_call 91; refine (HGG.out _).mono ?_; rintro e w3 ⟨rfl, h3⟩; have m3 := M2.later h3; clear M2 h3 d0 d1; have c0 := m3.b0.c0; have c1 := m3.b0.c1; have d0 := m3.b1.c0; have d1 := m3.b1.c1; have c2 := m3.b0.f0; have c3 := m3.b0.f1; have d2 := m3.b1.f0; have d3 := m3.b1.f1))
  all_goals
    have M4 := (m3.put0 p.1 p.2).put1 q.1 q.2
    clear m3 c0 c1 d0 d1 c2 c3 d2 d3
    generalize (((w3.setCell ⟨B, 0, none⟩ (.int .i64 p.1)).setCell ⟨B, 1, none⟩ (.int .i64 p.2)).setCell ⟨B + 1, 0, none⟩ (.int .i64 q.1)).setCell ⟨B + 1, 1, none⟩ (.int .i64 q.2) = w4 at *
    have c0 := M4.b0.c0; have c1 := M4.b0.c1; have d0 := M4.b1.c0; have d1 := M4.b1.c1
    go_wp2_with fail
    all_goals
      refine (between_any _ _ _).mono ?_
      rintro e w5 ⟨rfl, h5⟩
      rw [show betw _ _ = meetP s t from by rw [H.out]; congr 1 <;> omega]
      generalize meetP s t = r at *
      have M5 := M4.later h5
      clear M4 h5 c0 c1 d0 d1
      have e0 := M5.b2.c0; have e1 := M5.b2.c1; have e2 := M5.b2.f0; have e3 := M5.b2.f1
      go_wp2_with fail
      have M6 := M5.put2 r.1 r.2
      clear M5 e0 e1 e2 e3
      generalize (w5.setCell ⟨B + 1 + 1, 0, none⟩ (.int .i64 r.1)).setCell ⟨B + 1 + 1, 1, none⟩ (.int .i64 r.2) = w6 at *
      have e0 := M6.b2.c0; have e1 := M6.b2.c1
      exact bodyPost_ret (v := spV r) (by simp [results, Tryz.results140, go_sem, e0, e1]) rfl ⟨rfl, M6.below⟩
end Go.Proofs.YtohpaoleomcimaaGreat.sp
/-!   Package span: Touch, Holds, Below, From, Compare.
-/
namespace Go.Proofs.YtohpaoleomcimaaGreat.sp
open Go.RowKit aid mem
attribute [local go_sem ↓] Go.wp_at_zero Go.wp_at_succ
set_option linter.unusedVariables false

/-- two boxes side by side -/
structure M2 (w0 : World) (B : Nat) (s t : Int × Int) (w : World) : Prop where
  b0 : SpAt w B s
  b1 : SpAt w (B + 1) t
  below : Below w0.heap.size w0 w
  le : w0.heap.size ≤ B
theorem M2.later {w0 : World} {B : Nat} {s t : Int × Int} {w w' : World} (h : M2 w0 B s t w) (hb : Below w.heap.size w w') : M2 w0 B s t w' :=
  ⟨h.b0.later hb, h.b1.later hb, h.below.trans (hb.mono h.below.size), h.le⟩
theorem M2.all {w0 : World} {B : Nat} {s t : Int × Int} {w : World} (h : M2 w0 B s t w) : w.cell? ⟨B, 0, none⟩ = some (.int .i64 s.1) ∧ w.cell? ⟨B, 1, none⟩ = some (.int .i64 s.2) ∧ w.cell? ⟨B + 1, 0, none⟩ = some (.int .i64 t.1) ∧ w.cell? ⟨B + 1, 1, none⟩ = some (.int .i64 t.2) :=
  ⟨h.b0.c0, h.b0.c1, h.b1.c0, h.b1.c1⟩
theorem M2.put0 {w0 : World} {B : Nat} {s t : Int × Int} {w : World} (h : M2 w0 B s t w) (a b : Int) : M2 w0 B (a, b) t ((w.setCell ⟨B, 0, none⟩ (.int .i64 a)).setCell ⟨B, 1, none⟩ (.int .i64 b)) :=
  ⟨h.b0.put a b, h.b1.keep (kput w B _ _) (by simp), h.below.trans ((kput w B _ _).below (by simpa using h.le) h.below.size), h.le⟩
theorem M2.put1 {w0 : World} {B : Nat} {s t : Int × Int} {w : World} (h : M2 w0 B s t w) (a b : Int) : M2 w0 B s (a, b) ((w.setCell ⟨B + 1, 0, none⟩ (.int .i64 a)).setCell ⟨B + 1, 1, none⟩ (.int .i64 b)) :=
  ⟨h.b0.keep (kput w (B + 1) _ _) (by simp), h.b1.put a b, h.below.trans ((kput w (B + 1) _ _).below (by have := h.le; simp; omega) h.below.size), h.le⟩
theorem m2_new (w : World) (s t : Int × Int) : M2 w w.heap.size s t ((w.alloc (.cells #[.int .i64 s.1, .int .i64 s.2] 24)).alloc (.cells #[.int .i64 t.1, .int .i64 t.2] 24)) := by
  obtain ⟨h1, h2, h3⟩ := two_new w s t
  exact ⟨h1, h2, h3, Nat.le_refl _⟩
theorem m2_zero (w : World) (s : Int × Int) : M2 w w.heap.size s (0, 0) ((w.alloc (.cells #[.int .i64 s.1, .int .i64 s.2] 24)).alloc (.cells #[.int .i64 0, .int .i64 0] 24)) := m2_new w s (0, 0)

theorem eq_sp (a b c d : Int) (w : World) : (Op.equalIn 10000 24 (.agg #[.int .i64 a, .int .i64 b]) (.agg #[.int .i64 c, .int .i64 d])).run Tryz.prog w = .ok (a == c && b == d) w := by
  have u3 := Tryz.underlying3
  have a3 := Tryz.isAgg3
  have z3 := Tryz.sizeOf3
  have hS : Tryz.prog.underlying 24 = some (.struct (Tryz.prog.fieldsOf 24)) := by kernel_rfl
  rw [show (10000 : Nat) = 9999 + 1 from rfl, run_equalIn_agg w 9999 24 _ _ hS (by kernel_rfl)]
  simp only [Program.fieldsOf, Tryz.underlying24]
  go_simp
  by_cases h1 : a = c <;> by_cases h2 : b = d <;> simp [h1, h2]
theorem eq_guard : Tryz.prog.eqGuardType Tryz.prog.depth 24 = false := by kernel_rfl

set_option maxRecDepth 100000 in
set_option maxHeartbeats 800000 in
theorem touch_any (s t : Int × Int) (w : World) : Calls Tryz.prog 119 #[spV s, spV t] w (RetB (touchB s t) w) := by
  have M0 := m2_new w s t
  have H : Hid (touchB s t = (decide (lenI s ≠ 0) && decide (lenI t ≠ 0) && decide (s.1 ≤ t.2) && decide (t.1 ≤ s.2))) := Lib.hid rfl
  have HF := len_any s
  have HG := len_any t
  generalize lenI s = n at *
  generalize lenI t = m at *
  have HFF := Lib.hid HF
  have HGG := Lib.hid HG
  clear HF HG
  by_cases hn : n = 0
  · subst hn
    have H' : Hid (touchB s t = false) := Lib.hid (by rw [H.out]; simp)
    clear H
    go_enter Tryz.func119, Tryz.ntmps119
    go_wp2_with fail
    generalize (w.alloc (.cells #[.int .i64 s.1, .int .i64 s.2] 24)).alloc (.cells #[.int .i64 t.1, .int .i64 t.2] 24) = W at *
    generalize w.heap.size = B at *
    have c0 := M0.b0.c0; have c1 := M0.b0.c1
    refine (HFF.out _).mono ?_
    rintro e w1 ⟨rfl, h1⟩
    have M1 := M0.later h1
    go_wp2
    go_ret
    exact ⟨ret_b H'.out.symm, M1.below⟩
  · by_cases hm : m = 0
    · subst hm
      have hn1 : (n == 0) = false := by simpa using hn
      have H' : Hid (touchB s t = false) := Lib.hid (by rw [H.out]; simp)
      clear H hn
      go_enter Tryz.func119, Tryz.ntmps119
      go_wp2_with fail
      generalize (w.alloc (.cells #[.int .i64 s.1, .int .i64 s.2] 24)).alloc (.cells #[.int .i64 t.1, .int .i64 t.2] 24) = W at *
      generalize w.heap.size = B at *
      refine (HFF.out _).mono ?_
      rintro e w1 ⟨rfl, h1⟩
      have M1 := M0.later h1
      have c0 := M1.b1.c0; have c1 := M1.b1.c1
      go_wp2_with fail
      refine (HGG.out _).mono ?_
      rintro e w2 ⟨rfl, h2⟩
      have M2 := M1.later h2
      go_wp2
      go_ret
      exact ⟨ret_b H'.out.symm, M2.below⟩
    · have hn1 : (n == 0) = false := by simpa using hn
      have hm1 : (m == 0) = false := by simpa using hm
      have H' : Hid (touchB s t = (decide (s.1 ≤ t.2) && decide (t.1 ≤ s.2))) := Lib.hid (by rw [H.out]; simp [hn, hm])
      clear H hn hm
      go_enter Tryz.func119, Tryz.ntmps119
      go_wp2_with fail
      generalize (w.alloc (.cells #[.int .i64 s.1, .int .i64 s.2] 24)).alloc (.cells #[.int .i64 t.1, .int .i64 t.2] 24) = W at *
      generalize w.heap.size = B at *
      refine (HFF.out _).mono ?_
      rintro e w1 ⟨rfl, h1⟩
      have M1 := M0.later h1
      have c0 := M1.b1.c0; have c1 := M1.b1.c1
      go_wp2_with fail
      refine (HGG.out _).mono ?_
      rintro e w2 ⟨rfl, h2⟩
      have M2 := M1.later h2
      clear c0 c1
      have c0 := M2.b0.c0; have c1 := M2.b0.c1; have d0 := M2.b1.c0; have d1 := M2.b1.c1
      go_wp2
      all_goals
        go_ret
        exact ⟨ret_b (by rw [H'.out]; simp; omega), M2.below⟩

set_option maxHeartbeats 800000 in
theorem from_any (s : Int × Int) (o : Int) (w : World) : Calls Tryz.prog 59 #[spV s, .int .i64 o] w (RetS (fromP s o) w) := by
  have M0 := m2_zero w s
  have H : Hid (fromP s o = betw (max (fitP s.1 s.2).1 o) (fitP s.1 s.2).2) := Lib.hid rfl
  have HF := fit_any s
  generalize fitP s.1 s.2 = p at *
  have HFF := Lib.hid HF
  clear HF
  go_enter Tryz.func59, Tryz.ntmps59
  go_wp2_with fail
  generalize (w.alloc (.cells #[.int .i64 s.1, .int .i64 s.2] 24)).alloc (.cells #[.int .i64 0, .int .i64 0] 24) = W at *
  generalize w.heap.size = B at *
  refine (HFF.out _).mono ?_
  rintro e w1 ⟨rfl, h1⟩
  have M1 := M0.later h1
  have M1' := M1.put0 p.1 p.2
  have c0 := M1.b0.c0; have c1 := M1.b0.c1; have f0 := M1.b0.f0; have f1 := M1.b0.f1
  clear h1 M0 M1
  go_wp2_with fail
  all_goals
    refine (between_any _ _ _).mono ?_
    rintro e w2 ⟨rfl, h2⟩
    have M2 := M1'.later h2
    rw [show betw _ _ = fromP s o from by rw [H.out]; congr 1 <;> omega]
    generalize fromP s o = r at *
    have M3 := M2.put1 r.1 r.2
    have c0 := M2.b1.c0; have c1 := M2.b1.c1; have f0 := M2.b1.f0; have f1 := M2.b1.f1
    clear h2 M1' M2
    go_wp2_with fail
    have e0 := M3.b1.c0; have e1 := M3.b1.c1
    exact bodyPost_ret (v := spV r) (by simp [results, Tryz.results59, go_sem, e0, e1]) rfl ⟨rfl, M3.below⟩

end Go.Proofs.YtohpaoleomcimaaGreat.sp
/-!   Spans, as the reference has them; wider.
-/
namespace Go.Proofs.YtohpaoleomcimaaGreat.sp
open Go.RowKit aid mem
attribute [local go_sem ↓] Go.wp_at_zero Go.wp_at_succ
set_option linter.unusedVariables false

set_option maxHeartbeats 400000 in
theorem rmay_any (s : Int × Int) (w : World) : Calls Tryz.prog 90 #[spV s] w (RetB (mayB s.1 s.2) w) := by
  go_enter Tryz.func90, Tryz.ntmps90
  go_wp2
  all_goals
    go_ret
    exact ⟨ret_b (by unfold mayB; simp; omega), bal _⟩

set_option maxRecDepth 100000 in
set_option maxHeartbeats 800000 in
theorem rof_any (s : Int × Int) (w : World) : Calls Tryz.prog 57 #[spV s] w (RetS (ofP s) w) := by
  have M0 := m2_zero w s
  have HF := rmay_any s
  cases hm : mayB s.1 s.2 with
  | true =>
    rw [hm] at HF
    have HFF := Lib.hid HF
    clear HF
    by_cases he : s.1 = s.2
    · have H : Hid (ofP s = (0, 0)) := Lib.hid (by unfold ofP; rw [if_neg (fun x => x.2 he)])
      have he1 : (s.1 == s.2) = true := by simpa using he
      clear hm he
      go_enter Tryz.func57, Tryz.ntmps57
      go_wp2_with fail
      generalize (w.alloc (.cells #[.int .i64 s.1, .int .i64 s.2] 24)).alloc (.cells #[.int .i64 0, .int .i64 0] 24) = W at *
      generalize w.heap.size = B at *
      refine (HFF.out _).mono ?_
      rintro e w1 ⟨rfl, h1⟩
      have M1 := M0.later h1
      have M3 := M1.put1 0 0
      have c0 := M1.b0.c0; have c1 := M1.b0.c1; have d0 := M1.b1.c0; have d1 := M1.b1.c1; have f0 := M1.b1.f0; have f1 := M1.b1.f1
      clear h1 M0 M1
      go_wp2_with fail
      have e0 := M3.b1.c0; have e1 := M3.b1.c1
      exact bodyPost_ret (v := spV (0, 0)) (by simp [results, Tryz.results57, go_sem, e0, e1]) rfl ⟨by rw [H.out], M3.below⟩
    · have H : Hid (ofP s = s) := Lib.hid (by unfold ofP; rw [if_pos ⟨hm, he⟩])
      have he1 : (s.1 == s.2) = false := by simpa using he
      clear hm he
      go_enter Tryz.func57, Tryz.ntmps57
      go_wp2_with fail
      generalize (w.alloc (.cells #[.int .i64 s.1, .int .i64 s.2] 24)).alloc (.cells #[.int .i64 0, .int .i64 0] 24) = W at *
      generalize w.heap.size = B at *
      refine (HFF.out _).mono ?_
      rintro e w1 ⟨rfl, h1⟩
      have M1 := M0.later h1
      have M3 := M1.put1 s.1 s.2
      have c0 := M1.b0.c0; have c1 := M1.b0.c1; have d0 := M1.b1.c0; have d1 := M1.b1.c1; have f0 := M1.b1.f0; have f1 := M1.b1.f1
      clear h1 M0 M1
      go_wp2_with fail
      have e0 := M3.b1.c0; have e1 := M3.b1.c1
      exact bodyPost_ret (v := spV s) (by simp [results, Tryz.results57, go_sem, e0, e1]) rfl ⟨by rw [H.out], M3.below⟩
  | false =>
    rw [hm] at HF
    have HFF := Lib.hid HF
    clear HF
    have H : Hid (ofP s = (0, 0)) := Lib.hid (by unfold ofP; rw [if_neg (fun x => by rw [hm] at x; cases x.1)])
    clear hm
    go_enter Tryz.func57, Tryz.ntmps57
    go_wp2_with fail
    generalize (w.alloc (.cells #[.int .i64 s.1, .int .i64 s.2] 24)).alloc (.cells #[.int .i64 0, .int .i64 0] 24) = W at *
    generalize w.heap.size = B at *
    refine (HFF.out _).mono ?_
    rintro e w1 ⟨rfl, h1⟩
    have M1 := M0.later h1
    have M3 := M1.put1 0 0
    have d0 := M1.b1.c0; have d1 := M1.b1.c1; have f0 := M1.b1.f0; have f1 := M1.b1.f1
    clear h1 M0 M1
    go_wp2_with fail
    have e0 := M3.b1.c0; have e1 := M3.b1.c1
    exact bodyPost_ret (v := spV (0, 0)) (by simp [results, Tryz.results57, go_sem, e0, e1]) rfl ⟨by rw [H.out], M3.below⟩

set_option maxRecDepth 100000 in
theorem run_f0 (p : Int × Int) : ∀ w : World, (Instr.field 24 (.agg #[.int .i64 p.1, .int .i64 p.2]) 0).run Tryz.prog w = .ok (.int .i64 p.1) w := fun _ => by kernel_rfl
set_option maxRecDepth 100000 in
theorem run_f1 (p : Int × Int) : ∀ w : World, (Instr.field 24 (.agg #[.int .i64 p.1, .int .i64 p.2]) 1).run Tryz.prog w = .ok (.int .i64 p.2) w := fun _ => by kernel_rfl

/-- one box -/
structure M1 (w0 : World) (B : Nat) (s : Int × Int) (w : World) : Prop where
  b0 : SpAt w B s
  below : Below w0.heap.size w0 w
  le : w0.heap.size ≤ B
theorem M1.later {w0 : World} {B : Nat} {s : Int × Int} {w w' : World} (h : M1 w0 B s w) (hb : Below w.heap.size w w') : M1 w0 B s w' :=
  ⟨h.b0.later hb, h.below.trans (hb.mono h.below.size), h.le⟩
theorem M1.all {w0 : World} {B : Nat} {s : Int × Int} {w : World} (h : M1 w0 B s w) : w.cell? ⟨B, 0, none⟩ = some (.int .i64 s.1) ∧ w.cell? ⟨B, 1, none⟩ = some (.int .i64 s.2) := ⟨h.b0.c0, h.b0.c1⟩
theorem m1_new (w : World) (s : Int × Int) : M1 w w.heap.size s (w.alloc (.cells #[.int .i64 s.1, .int .i64 s.2] 24)) := ⟨sp_new w s, bal _, Nat.le_refl _⟩

set_option maxRecDepth 100000 in
set_option maxHeartbeats 800000 in
theorem rlen_any (s : Int × Int) (w : World) : Calls Tryz.prog 15 #[spV s] w (RetI (lenI s) w) := by
  have M0 := m1_new w s
  have HF := rof_any s
  have H : Hid ((ofP s).2 - (ofP s).1 = lenI s) := Lib.hid (len_of s)
  have ho := of_ok s
  generalize ofP s = p at *
  have HFF := Lib.hid HF
  obtain ⟨o1, o2, o3⟩ := ho
  clear HF
  have hw : IntKind.i64.wrap (p.2 - p.1) = p.2 - p.1 := IntWalk.i64_in _ (by omega)
  have fl0 := run_f0 p
  have fl1 := run_f1 p
  go_enter Tryz.func15, Tryz.ntmps15
  go_wp2_with fail
  generalize w.alloc (.cells #[.int .i64 s.1, .int .i64 s.2] 24) = W at *
  generalize w.heap.size = B at *
  have M1 := M0.later (Below.refl _ _).drew
  go_region_held3 (fun w' => w'.cell? ⟨B, 0, none⟩ = some (.int .i64 s.1) ∧ w'.cell? ⟨B, 1, none⟩ = some (.int .i64 s.2)) (first | exact M3.all | exact M2.all | exact M1.all | exact M0.all | go_keep) (first
    | (go_at_call 57; refine (HFF.out _).mono ?_; rintro e w2 ⟨rfl, h2⟩; have M2 := M1.later h2; clear M1 h2)
    | (go_at_call 57; refine (HFF.out _).mono ?_; rintro e w3 ⟨rfl, h3⟩; have M3 := M2.later h3; clear M2 h3))
  all_goals
    go_wp2
    go_ret
    exact ⟨ret_i H.out, M3.below⟩

theorem SpAt.set0 {w : World} {B : Nat} {s : Int × Int} (h : SpAt w B s) (a : Int) : SpAt (w.setCell ⟨B, 0, none⟩ (.int .i64 a)) B (a, s.2) := (heap_setCell_same _ B 0 _ _ _ h).trans rfl
theorem SpAt.set1 {w : World} {B : Nat} {s : Int × Int} (h : SpAt w B s) (a : Int) : SpAt (w.setCell ⟨B, 1, none⟩ (.int .i64 a)) B (s.1, a) := (heap_setCell_same _ B 1 _ _ _ h).trans rfl
theorem M2.s00 {w0 : World} {B : Nat} {s t : Int × Int} {w : World} (h : M2 w0 B s t w) (a : Int) : M2 w0 B (a, s.2) t (w.setCell ⟨B, 0, none⟩ (.int .i64 a)) :=
  ⟨h.b0.set0 a, h.b1.keep ((Kept.refl [B] w).setCell (.inl (by simp)) _) (by simp), h.below.trans (((Kept.refl [B] w).setCell (.inl (by simp)) _).below (by simpa using h.le) h.below.size), h.le⟩

/-- two boxes: the result's, and one that was made later -/
structure MQ (w0 : World) (R A : Nat) (r a : Int × Int) (w : World) : Prop where
  r : SpAt w R r
  a : SpAt w A a
  ne : R ≠ A
  le : w0.heap.size ≤ R ∧ w0.heap.size ≤ A
  below : Below w0.heap.size w0 w
theorem MQ.later {w0 : World} {R A : Nat} {r a : Int × Int} {w w' : World} (h : MQ w0 R A r a w) (hb : Below w.heap.size w w') : MQ w0 R A r a w' :=
  ⟨h.r.later hb, h.a.later hb, h.ne, h.le, h.below.trans (hb.mono h.below.size)⟩
theorem MQ.a0 {w0 : World} {R A : Nat} {r a : Int × Int} {w : World} (h : MQ w0 R A r a w) (x : Int) : MQ w0 R A r (x, a.2) (w.setCell ⟨A, 0, none⟩ (.int .i64 x)) := by
  have hk := (Kept.refl [A] w).setCell (p := ⟨A, 0, none⟩) (.inl (by simp)) (.int .i64 x)
  exact ⟨h.r.keep hk (by simpa using h.ne), h.a.set0 x, h.ne, h.le, h.below.trans (hk.below (by simpa using h.le.2) h.below.size)⟩
theorem MQ.a1 {w0 : World} {R A : Nat} {r a : Int × Int} {w : World} (h : MQ w0 R A r a w) (x : Int) : MQ w0 R A r (a.1, x) (w.setCell ⟨A, 1, none⟩ (.int .i64 x)) := by
  have hk := (Kept.refl [A] w).setCell (p := ⟨A, 1, none⟩) (.inl (by simp)) (.int .i64 x)
  exact ⟨h.r.keep hk (by simpa using h.ne), h.a.set1 x, h.ne, h.le, h.below.trans (hk.below (by simpa using h.le.2) h.below.size)⟩
theorem MQ.putr {w0 : World} {R A : Nat} {r a : Int × Int} {w : World} (h : MQ w0 R A r a w) (x y : Int) : MQ w0 R A (x, y) a ((w.setCell ⟨R, 0, none⟩ (.int .i64 x)).setCell ⟨R, 1, none⟩ (.int .i64 y)) :=
  ⟨h.r.put x y, h.a.keep (kput w R _ _) (by simpa using h.ne.symm), h.ne, h.le, h.below.trans ((kput w R _ _).below (by simpa using h.le.1) h.below.size)⟩
theorem MQ.puta {w0 : World} {R A : Nat} {r a : Int × Int} {w : World} (h : MQ w0 R A r a w) (x y : Int) : MQ w0 R A r (x, y) ((w.setCell ⟨A, 0, none⟩ (.int .i64 x)).setCell ⟨A, 1, none⟩ (.int .i64 y)) :=
  ⟨h.r.keep (kput w A _ _) (by simpa using h.ne), h.a.put x y, h.ne, h.le, h.below.trans ((kput w A _ _).below (by simpa using h.le.2) h.below.size)⟩

set_option maxRecDepth 100000 in
set_option maxHeartbeats 1600000 in
theorem rmeet_any (s t : Int × Int) (w : World) : Calls Tryz.prog 108 #[spV s, spV t] w (RetS (meetP s t) w) := by
  obtain ⟨s1, s2, s3, b1⟩ := three_new w s t
  have M0 : M3 w w.heap.size s t (0, 0) (((w.alloc (.cells #[.int .i64 s.1, .int .i64 s.2] 24)).alloc (.cells #[.int .i64 t.1, .int .i64 t.2] 24)).alloc (.cells #[.int .i64 0, .int .i64 0] 24)) := ⟨s1, s2, s3, b1, Nat.le_refl _⟩
  clear s1 s2 s3 b1
  have H : Hid (ofP (if (ofP s).1 < (ofP t).1 then (ofP t).1 else (ofP s).1, if (ofP t).2 < (ofP s).2 then (ofP t).2 else (ofP s).2) = meetP s t) := Lib.hid (rmeet_eq s t)
  have HF := rof_any s
  have HG := rof_any t
  generalize ofP s = p at *
  generalize ofP t = q at *
  have HFF := Lib.hid HF
  have HGG := Lib.hid HG
  clear HF HG
  generalize meetP s t = r at *
  by_cases hx : p.1 < q.1
  · by_cases hy : q.2 < p.2
    · have H' : Hid (ofP (q.1, q.2) = r) := Lib.hid (by rw [← H.out, if_pos hx, if_pos hy])
      clear H
      go_enter Tryz.func108, Tryz.ntmps108
      go_wp2_with fail
      generalize ((w.alloc (.cells #[.int .i64 s.1, .int .i64 s.2] 24)).alloc (.cells #[.int .i64 t.1, .int .i64 t.2] 24)).alloc (.cells #[.int .i64 0, .int .i64 0] 24) = W at *
      generalize hB : w.heap.size = B at M0 ⊢
      refine (HFF.out _).mono ?_
      rintro e w1 ⟨rfl, h1⟩
      have M1 := M0.later h1
      have c0 := M1.b1.c0; have c1 := M1.b1.c1
      have n1 := M1.b0.lt; have n2 := M1.b1.lt; have n3 := M1.b2.lt; have n4 := M1.below.size
      clear h1 M0
      go_wp2_with fail
      refine (HGG.out _).mono ?_
      rintro e w2 ⟨rfl, h2⟩
      have A2 := (sp_new w1 p).later h2
      have R2 := (M1.b2.later (bal (.cells #[.int .i64 p.1, .int .i64 p.2] 24))).later h2
      have n5 := A2.lt
      have MA : MQ w (B + 1 + 1) w1.heap.size (0, 0) p w2 := ⟨R2, A2, by omega, ⟨by omega, by omega⟩, ((M1.below.alloc n4 (.cells #[.int .i64 p.1, .int .i64 p.2] 24)).trans (h2.mono (by simp; omega)))⟩
      clear M1 c0 c1 h2 A2 R2
      have f0 := MA.a.f0; have f1 := MA.a.f1
      have c0 := MA.a.c0; have c1 := MA.a.c1
      go_wp2_with fail
      generalize w1.heap.size = A at *
      have MB := ((MA.a0 q.1).a1 q.2).later (bal (.cells #[.int .i64 q.1, .int .i64 q.2] 24))
      clear MA c0 c1 f0 f1
      generalize ((w2.setCell ⟨A, 0, none⟩ (.int .i64 q.1)).setCell ⟨A, 1, none⟩ (.int .i64 q.2)).alloc (.cells #[.int .i64 q.1, .int .i64 q.2] 24) = W3 at *
      refine (rof_any (q.1, q.2) _).mono ?_
      rintro e w4 ⟨rfl, h4⟩
      rw [H'.out]
      have MC := MB.later h4
      clear MB h4
      have MD := MC.putr r.1 r.2
      have e0 := MC.r.c0; have e1 := MC.r.c1; have g0 := MC.r.f0; have g1 := MC.r.f1
      clear MC
      go_wp2_with fail
      generalize (w4.setCell ⟨B + 1 + 1, 0, none⟩ (.int .i64 r.1)).setCell ⟨B + 1 + 1, 1, none⟩ (.int .i64 r.2) = w5 at *
      have k0 := MD.r.c0; have k1 := MD.r.c1
      have hb := MD.below
      clear MD
      exact bodyPost_ret (v := spV r) (by simp [results, Tryz.results108, go_sem, k0, k1]) rfl ⟨rfl, hb⟩
    · have H' : Hid (ofP (q.1, p.2) = r) := Lib.hid (by rw [← H.out, if_pos hx, if_neg hy])
      clear H
      go_enter Tryz.func108, Tryz.ntmps108
      go_wp2_with fail
      generalize ((w.alloc (.cells #[.int .i64 s.1, .int .i64 s.2] 24)).alloc (.cells #[.int .i64 t.1, .int .i64 t.2] 24)).alloc (.cells #[.int .i64 0, .int .i64 0] 24) = W at *
      generalize hB : w.heap.size = B at M0 ⊢
      refine (HFF.out _).mono ?_
      rintro e w1 ⟨rfl, h1⟩
      have M1 := M0.later h1
      have c0 := M1.b1.c0; have c1 := M1.b1.c1
      have n1 := M1.b0.lt; have n2 := M1.b1.lt; have n3 := M1.b2.lt; have n4 := M1.below.size
      clear h1 M0
      go_wp2_with fail
      refine (HGG.out _).mono ?_
      rintro e w2 ⟨rfl, h2⟩
      have A2 := (sp_new w1 p).later h2
      have R2 := (M1.b2.later (bal (.cells #[.int .i64 p.1, .int .i64 p.2] 24))).later h2
      have n5 := A2.lt
      have MA : MQ w (B + 1 + 1) w1.heap.size (0, 0) p w2 := ⟨R2, A2, by omega, ⟨by omega, by omega⟩, ((M1.below.alloc n4 (.cells #[.int .i64 p.1, .int .i64 p.2] 24)).trans (h2.mono (by simp; omega)))⟩
      clear M1 c0 c1 h2 A2 R2
      have f0 := MA.a.f0; have f1 := MA.a.f1
      have c0 := MA.a.c0; have c1 := MA.a.c1
      go_wp2_with fail
      generalize w1.heap.size = A at *
      have MB := (MA.a0 q.1).later (bal (.cells #[.int .i64 q.1, .int .i64 q.2] 24))
      clear MA c0 c1 f0 f1
      generalize (w2.setCell ⟨A, 0, none⟩ (.int .i64 q.1)).alloc (.cells #[.int .i64 q.1, .int .i64 q.2] 24) = W3 at *
      refine (rof_any (q.1, p.2) _).mono ?_
      rintro e w4 ⟨rfl, h4⟩
      rw [H'.out]
      have MC := MB.later h4
      clear MB h4
      have MD := MC.putr r.1 r.2
      have e0 := MC.r.c0; have e1 := MC.r.c1; have g0 := MC.r.f0; have g1 := MC.r.f1
      clear MC
      go_wp2_with fail
      generalize (w4.setCell ⟨B + 1 + 1, 0, none⟩ (.int .i64 r.1)).setCell ⟨B + 1 + 1, 1, none⟩ (.int .i64 r.2) = w5 at *
      have k0 := MD.r.c0; have k1 := MD.r.c1
      have hb := MD.below
      clear MD
      exact bodyPost_ret (v := spV r) (by simp [results, Tryz.results108, go_sem, k0, k1]) rfl ⟨rfl, hb⟩
  · by_cases hy : q.2 < p.2
    · have H' : Hid (ofP (p.1, q.2) = r) := Lib.hid (by rw [← H.out, if_neg hx, if_pos hy])
      clear H
      go_enter Tryz.func108, Tryz.ntmps108
      go_wp2_with fail
      generalize ((w.alloc (.cells #[.int .i64 s.1, .int .i64 s.2] 24)).alloc (.cells #[.int .i64 t.1, .int .i64 t.2] 24)).alloc (.cells #[.int .i64 0, .int .i64 0] 24) = W at *
      generalize hB : w.heap.size = B at M0 ⊢
      refine (HFF.out _).mono ?_
      rintro e w1 ⟨rfl, h1⟩
      have M1 := M0.later h1
      have c0 := M1.b1.c0; have c1 := M1.b1.c1
      have n1 := M1.b0.lt; have n2 := M1.b1.lt; have n3 := M1.b2.lt; have n4 := M1.below.size
      clear h1 M0
      go_wp2_with fail
      refine (HGG.out _).mono ?_
      rintro e w2 ⟨rfl, h2⟩
      have A2 := (sp_new w1 p).later h2
      have R2 := (M1.b2.later (bal (.cells #[.int .i64 p.1, .int .i64 p.2] 24))).later h2
      have n5 := A2.lt
      have MA : MQ w (B + 1 + 1) w1.heap.size (0, 0) p w2 := ⟨R2, A2, by omega, ⟨by omega, by omega⟩, ((M1.below.alloc n4 (.cells #[.int .i64 p.1, .int .i64 p.2] 24)).trans (h2.mono (by simp; omega)))⟩
      clear M1 c0 c1 h2 A2 R2
      have f0 := MA.a.f0; have f1 := MA.a.f1
      have c0 := MA.a.c0; have c1 := MA.a.c1
      go_wp2_with fail
      generalize w1.heap.size = A at *
      have MB := (MA.a1 q.2).later (bal (.cells #[.int .i64 q.1, .int .i64 q.2] 24))
      clear MA c0 c1 f0 f1
      generalize ((w2).setCell ⟨A, 1, none⟩ (.int .i64 q.2)).alloc (.cells #[.int .i64 q.1, .int .i64 q.2] 24) = W3 at *
      refine (rof_any (p.1, q.2) _).mono ?_
      rintro e w4 ⟨rfl, h4⟩
      rw [H'.out]
      have MC := MB.later h4
      clear MB h4
      have MD := MC.putr r.1 r.2
      have e0 := MC.r.c0; have e1 := MC.r.c1; have g0 := MC.r.f0; have g1 := MC.r.f1
      clear MC
      go_wp2_with fail
      generalize (w4.setCell ⟨B + 1 + 1, 0, none⟩ (.int .i64 r.1)).setCell ⟨B + 1 + 1, 1, none⟩ (.int .i64 r.2) = w5 at *
      have k0 := MD.r.c0; have k1 := MD.r.c1
      have hb := MD.below
      clear MD
      exact bodyPost_ret (v := spV r) (by simp [results, Tryz.results108, go_sem, k0, k1]) rfl ⟨rfl, hb⟩
    · have H' : Hid (ofP (p.1, p.2) = r) := Lib.hid (by rw [← H.out, if_neg hx, if_neg hy])
      clear H
      go_enter Tryz.func108, Tryz.ntmps108
      go_wp2_with fail
      generalize ((w.alloc (.cells #[.int .i64 s.1, .int .i64 s.2] 24)).alloc (.cells #[.int .i64 t.1, .int .i64 t.2] 24)).alloc (.cells #[.int .i64 0, .int .i64 0] 24) = W at *
      generalize hB : w.heap.size = B at M0 ⊢
      refine (HFF.out _).mono ?_
      rintro e w1 ⟨rfl, h1⟩
      have M1 := M0.later h1
      have c0 := M1.b1.c0; have c1 := M1.b1.c1
      have n1 := M1.b0.lt; have n2 := M1.b1.lt; have n3 := M1.b2.lt; have n4 := M1.below.size
      clear h1 M0
      go_wp2_with fail
      refine (HGG.out _).mono ?_
      rintro e w2 ⟨rfl, h2⟩
      have A2 := (sp_new w1 p).later h2
      have R2 := (M1.b2.later (bal (.cells #[.int .i64 p.1, .int .i64 p.2] 24))).later h2
      have n5 := A2.lt
      have MA : MQ w (B + 1 + 1) w1.heap.size (0, 0) p w2 := ⟨R2, A2, by omega, ⟨by omega, by omega⟩, ((M1.below.alloc n4 (.cells #[.int .i64 p.1, .int .i64 p.2] 24)).trans (h2.mono (by simp; omega)))⟩
      clear M1 c0 c1 h2 A2 R2
      have f0 := MA.a.f0; have f1 := MA.a.f1
      have c0 := MA.a.c0; have c1 := MA.a.c1
      go_wp2_with fail
      generalize w1.heap.size = A at *
      have MB := (MA).later (bal (.cells #[.int .i64 q.1, .int .i64 q.2] 24))
      clear MA c0 c1 f0 f1
      generalize (w2).alloc (.cells #[.int .i64 q.1, .int .i64 q.2] 24) = W3 at *
      refine (rof_any (p.1, p.2) _).mono ?_
      rintro e w4 ⟨rfl, h4⟩
      rw [H'.out]
      have MC := MB.later h4
      clear MB h4
      have MD := MC.putr r.1 r.2
      have e0 := MC.r.c0; have e1 := MC.r.c1; have g0 := MC.r.f0; have g1 := MC.r.f1
      clear MC
      go_wp2_with fail
      generalize (w4.setCell ⟨B + 1 + 1, 0, none⟩ (.int .i64 r.1)).setCell ⟨B + 1 + 1, 1, none⟩ (.int .i64 r.2) = w5 at *
      have k0 := MD.r.c0; have k1 := MD.r.c1
      have hb := MD.below
      clear MD
      exact bodyPost_ret (v := spV r) (by simp [results, Tryz.results108, go_sem, k0, k1]) rfl ⟨rfl, hb⟩
end Go.Proofs.YtohpaoleomcimaaGreat.sp
/-!   append, of whatever source, onto a row of one's own: elements of any size; where the row lies then is told. Within a fence, too. Imports nothing of the program.
-/
namespace Go.Proofs.YtohpaoleomcimaaGreat.mem
open Go.RowKit aid
set_option linter.unusedVariables false
section
variable {P : Program} (w : World)

theorem run_append_sz (t tx ty : TypeId) (base : Nat) (e : TypeId) (i : TypeInfo) (z : Value) (sz bytes : Nat) (ht : P.underlying t = some (.slice e)) (hi : P.info? e = some i) (hz : i.zero = some z)
    (hsize : i.size = sz) (hsz : 0 < sz) (hby : i.bytes = bytes) (hzs : z.cells.size = sz)
    (v : Value) (n : Nat) (xs : List Value) (hown : w.ownsRow base e sz v n xs) (x : Value) (m : Nat) (news : List Value) (hs : Src P sz tx x m news w)
    (h63 : n + m ≤ maxLen) (hbytes : (n + m) * bytes ≤ 140737488355328) (hbase : base ≤ w.heap.size) :
    ∃ v' w', (Builtin.append_ #[t, tx] ty #[v, x]).run P w = .ok v' w' ∧ w'.ownsRow base e sz v' (n + m) (xs ++ news) ∧ w.grownBy w' v.ownBlock ∧
      (v'.ownBlock = v.ownBlock ∨ v'.ownBlock = some w.heap.size) := by
  have hnl : news.length = m * sz := by simpa using hs.newsLen
  have hxl : xs.length = n * sz := by simpa using hown.1
  have h63' : ((n + m : Nat) : Int) ≤ 9223372036854775807 := by unfold maxLen at h63; omega
  have hs' : Src P i.size tx x m news w := by rw [hsize]; exact hs
  have hlen : (xs ++ news).length = (n + m) * sz := by rw [List.length_append, hxl, hnl, Nat.add_mul]
  have grow : ∀ (b : Option Addr) (cap : Nat), cap < n + m → (Builtin.firstCells i.size n (.slice b n cap)).run P w.drew = .ok xs.toArray w.drew →
      ∃ v' w', (Builtin.append_ #[t, tx] ty #[.slice b n cap, x]).run P w = .ok v' w' ∧ w'.ownsRow base e sz v' (n + m) (xs ++ news) ∧ w.grownBy w' (Value.ownBlock (.slice b n cap)) ∧
      (v'.ownBlock = Value.ownBlock (.slice b n cap) ∨ v'.ownBlock = some w.heap.size) := by
    intro b cap hlt hold
    have hr := run_append_grow_src (P := P) w t tx ty e i z ht hi hz b n cap xs hold x m news hs' hlt h63' (by rw [hby]; exact growslice_fits (by omega) hbytes)
    refine ⟨_, _, hr, ⟨hlen, .inr ⟨w.heap.size, _, _, rfl, hbase, heap_alloc_new w.drew _, grownCap_ge _ _ _ _, grownCap_le_maxLen _ _ _ _ h63, ?_, ?_⟩⟩, ⟨rfl, rfl, rfl, by simp, fun k hk _ => Below.heap_alloc w.drew _ k hk⟩, .inr rfl⟩
    · have hge := grownCap_ge w (n + m) cap e
      simp only [Array.size_append, List.size_toArray, size_zeroCells, hzs]
      rw [← hlen, List.length_append, hxl, hnl] at *
      have : grownCap w (n + m) cap e = (n + m) + (grownCap w (n + m) cap e - (n + m)) := by omega
      generalize grownCap w (n + m) cap e - (n + m) = q at *
      rw [this, Nat.add_mul, Nat.add_mul]
    · simp only [Array.toList_append]
      rw [← hlen]
      exact List.take_left
  rcases hown.2 with ⟨rfl, rfl⟩ | ⟨g, cap, cur, rfl, hbg, hg, hnc, hcm, hcs, htake⟩
  · obtain rfl : xs = [] := List.eq_nil_of_length_eq_zero (by omega)
    by_cases hm : m = 0
    · subst hm
      obtain rfl : news = [] := List.eq_nil_of_length_eq_zero (by omega)
      refine ⟨.slice none 0 0, w, ?_, World.ownsRow_nil w base e sz, ⟨rfl, rfl, rfl, Nat.le_refl _, fun _ _ _ => rfl⟩, .inl rfl⟩
      have hc := hs'.cells
      rcases hs.kind with ⟨e', hk⟩ | hk <;> simp [Builtin.append_, run_underlying ht, run_underlying hk, sizeOf, typeInfo, hi, hs.len, hc]
    · exact grow none 0 (by omega) (run_firstCells_none w.drew i.size 0 0 0)
  · by_cases hroom : n + m ≤ cap
    · have hcell : ∀ j, w.cell? ⟨g, j, none⟩ = cur[j]? := fun j => cell_of_row w g j cur e (0, 0) hg
      have hfr : ∀ j, w.frozen? ⟨g, j, none⟩ = false := fun j => by simp [World.frozen?, hg]
      have hmul : n * sz + m * sz ≤ cap * sz := by rw [← Nat.add_mul]; exact Nat.mul_le_mul_right _ hroom
      have hr := run_append_room_src (P := P) w t tx ty e i ht hi g 0 n cap x m news hs' hroom
        (fun j hj => by rw [hcell, hsize]; rw [Array.getElem?_eq_getElem (by rw [hcs]; omega)]; rfl) (fun j hj => hfr _)
      rw [hsize] at hr
      simp only [Nat.zero_add] at hr
      have hsr : w.setCells g (n * sz) news = w.setRow g (cur.toList.take (n * sz) ++ news ++ cur.toList.drop (n * sz + news.length)).toArray := by
        have h2 := run_storeCells_at P g (n * sz) e news 0 cur w hg (by omega) hs.one
        have h3 := run_storeCells_cells (P := P) g (n * sz) news 0 w (fun j hj => by rw [hcell]; rw [Array.getElem?_eq_getElem (by rw [hcs]; omega)]; rfl) (fun j hj => hfr _) hs.one
        simp only [Nat.add_zero] at h2 h3
        rw [h2] at h3
        injection h3 with _ h3
        exact h3.symm
      rw [hsr] at hr
      refine ⟨_, _, hr, ⟨hlen, .inr ⟨g, cap, _, rfl, hbg, setRow_heap w g cur _ e _ hg, hroom, hcm, ?_, ?_⟩⟩, ⟨rfl, rfl, rfl, by simp, fun k _ hk => setRow_other w g k _ (fun e => hk (by simp [Value.ownBlock, e]))⟩, .inl rfl⟩
      · simp only [List.size_toArray, List.length_append, List.length_take, List.length_drop, Array.length_toList]
        omega
      · simp only
        rw [htake, ← hlen]
        exact List.take_left
    · refine grow (some ⟨g, 0, none⟩) cap (by omega) ?_
      exact run_firstCells_some w.drew i.size n ⟨g, 0, none⟩ n cap xs (by rw [hxl, hsize]) (by have := hown.cells (g := g) rfl; simpa using this)

/-- within a fence -/
theorem wpListIn_append_sz {F : Fence} {q : Nat} {ops : Array Oper} {rest : List Oper} {o : Oper} {a : Act} {Q : Exit → Act → World → Prop}
    (hg : o.guard = none) (s x : Operand) (t tx : TypeId) (hop : o.op = Op.call { callee := Callee.builtin Builtin.append, args := #[s, x], argTypes := #[t, tx] })
    (base : Nat) (e : TypeId) (i : TypeInfo) (z : Value) (sz bytes : Nat) (ht : P.underlying t = some (.slice e)) (hi : P.info? e = some i) (hz : i.zero = some z)
    (hsize : i.size = sz) (hsz : 0 < sz) (hby : i.bytes = bytes) (hzs : z.cells.size = sz)
    (v : Value) (n : Nat) (xs : List Value) (hsv : a.eval s = v) (hown : w.ownsRow base e sz v n xs) (xv : Value) (hx : a.eval x = xv) (m : Nat) (news : List Value) (hs : Src P sz tx xv m news w)
    (h63 : n + m ≤ maxLen) (hbytes : (n + m) * bytes ≤ 140737488355328) (hbase : base ≤ w.heap.size)
    (hK : ∀ a' cap' w', w'.ownsRow base e sz (.slice a' (n + m) cap') (n + m) (xs ++ news) → w.grownBy w' v.ownBlock → (Value.ownBlock (.slice a' (n + m) cap') = v.ownBlock ∨ Value.ownBlock (.slice a' (n + m) cap') = some w.heap.size) → wpListIn F q P ops Q rest (a.put o.dst (.slice a' (n + m) cap')) w') :
    wpListIn F q P ops Q (o :: rest) a w := by
  refine wpListIn_plain hg fun K hK' => ?_
  obtain ⟨v', w', hrun, r1, r2, r3⟩ := run_append_sz (P := P) w t tx o.type base e i z sz bytes ht hi hz hsize hsz hby hzs v n xs hown xv m news hs h63 hbytes hbase
  obtain ⟨a', cap', rfl⟩ := own_form r1
  unfold Oper.wpIn
  refine ⟨?_, ?_⟩
  · simp [Oper.about, hop, resolve, Target.leads, Sem.run_pure]
  · rw [Oper.semAt_plain F _ _ (by rw [hop]; intro c hc'; cases hc')]
    simp [execOp, hop, resolve, invoke, builtin, hsv, hx, hrun, Result.andThen]
    exact hK' _ _ (hK a' cap' w' r1 r2 r3)
theorem wpList_append_sz {ops : Array Oper} {rest : List Oper} {o : Oper} {a : Act} {Q : Exit → Act → World → Prop} (hgd : o.guard = none) (s x : Operand) (t tx : TypeId)
    (ho : o.op = .call { callee := .builtin .append, args := #[s, x], argTypes := #[t, tx] })
    (base : Nat) (e : TypeId) (i : TypeInfo) (z : Value) (sz bytes : Nat) (ht : P.underlying t = some (.slice e)) (hi : P.info? e = some i) (hz : i.zero = some z)
    (hsize : i.size = sz) (hsz : 0 < sz) (hby : i.bytes = bytes) (hzs : z.cells.size = sz)
    (v : Value) (n : Nat) (xs : List Value) (hsv : a.eval s = v) (hown : w.ownsRow base e sz v n xs) (xv : Value) (hx : a.eval x = xv) (m : Nat) (news : List Value) (hs : Src P sz tx xv m news w)
    (h63 : n + m ≤ maxLen) (hbytes : (n + m) * bytes ≤ 140737488355328) (hbase : base ≤ w.heap.size)
    (h : ∀ a' cap' w', w'.ownsRow base e sz (.slice a' (n + m) cap') (n + m) (xs ++ news) → w.grownBy w' v.ownBlock → (Value.ownBlock (.slice a' (n + m) cap') = v.ownBlock ∨ Value.ownBlock (.slice a' (n + m) cap') = some w.heap.size) → wpList P ops Q rest (a.put o.dst (.slice a' (n + m) cap')) w') : wpList P ops Q (o :: rest) a w := by
  refine wpList_plain hgd fun K hK => ?_
  obtain ⟨v', w', hr, h2, h3, h4⟩ := run_append_sz (P := P) w t tx o.type base e i z sz bytes ht hi hz hsize hsz hby hzs v n xs hown xv m news hs h63 hbytes hbase
  unfold Oper.wp execOp
  obtain ⟨a', cap', rfl⟩ := own_form h2
  simp only [ho, resolve, invoke, builtin, Sem.run_bind, Sem.run_pure, Result.andThen_ok, List.map_toArray, List.map_cons, List.map_nil, hsv, hx, hr]
  exact hK _ _ (h a' cap' w' h2 h3 h4)
end
end Go.Proofs.YtohpaoleomcimaaGreat.mem
/-!   Rows of one's own: what keeps them. Imports nothing of the program.
-/
namespace Go.Proofs.YtohpaoleomcimaaGreat.mem
open Go.RowKit aid
set_option linter.unusedVariables false

theorem al {w : World} (o : Obj) : Below w.heap.size w (w.alloc o) := (Below.refl _ _).alloc (Nat.le_refl _) _
theorem own_step {W W' : World} {base : Nat} {e : TypeId} {size : Nat} {v : Value} {n : Nat} {xs : List Value} (ho : W.ownsRow base e size v n xs) (h : ∀ k o, v.ownBlock = some k → W.heap[k]? = some o → W'.heap[k]? = some o) : W'.ownsRow base e size v n xs := by
  refine ⟨ho.1, ?_⟩
  rcases ho.2 with hn | ⟨g, cap, cur, rfl, hb, hgg, rest⟩
  · exact .inl hn
  · exact .inr ⟨g, cap, cur, rfl, hb, h g _ rfl hgg, rest⟩
theorem own_later {W W' : World} {base : Nat} {e : TypeId} {size : Nat} {v : Value} {n : Nat} {xs : List Value} (ho : W.ownsRow base e size v n xs) (h : Below W.heap.size W W') : W'.ownsRow base e size v n xs :=
  own_step ho (fun k o _ hk => (h.block k (lt_of_block hk)).trans hk)
theorem own_in {W : World} {base : Nat} {e : TypeId} {size : Nat} {v : Value} {n : Nat} {xs : List Value} (ho : W.ownsRow base e size v n xs) {k : Nat} (hk : v.ownBlock = some k) : k < W.heap.size ∧ base ≤ k := by
  rcases ho.2 with ⟨rfl, _⟩ | ⟨g, cap, cur, rfl, hb, hgg, rest⟩
  · cases hk
  · cases hk; exact ⟨lt_of_block hgg, hb⟩
theorem below_grown {w w1 : World} {v : Value} {B : Nat} (hg : w.grownBy w1 v.ownBlock) (hB : B ≤ w.heap.size) (hv : ∀ k, v.ownBlock = some k → B ≤ k) : Below B w w1 :=
  ⟨hg.os, hg.tape, hg.output, hg.size, fun k hk => hg.block k (by omega) (fun e => by have := hv k e.symm; omega)⟩
theorem info_split {o : Option TypeInfo} {z : Value} {a b : Nat} (h : o.map (fun i => (i.zero, i.size, i.bytes)) = some (some z, a, b)) : ∃ i, o = some i ∧ i.zero = some z ∧ i.size = a ∧ i.bytes = b := by
  cases o with
  | none => simp at h
  | some i => simp at h; exact ⟨i, rfl, h.1, h.2.1, h.2.2⟩
section
variable {P : Program} (w : World)
/-- append as a step of a region that draws its order: elements of any size -/
theorem step_append_sz {ops : Array Oper} {o : Oper} {a : Act} {K : Act → World → Prop} {Q : Exit → Act → World → Prop} {E : Prop} (hgd : o.guard = none) (s x : Operand) (t tx : TypeId)
    (ho : o.op = .call { callee := .builtin .append, args := #[s, x], argTypes := #[t, tx] })
    (base : Nat) (e : TypeId) (i : TypeInfo) (z : Value) (sz bytes : Nat) (ht : P.underlying t = some (.slice e)) (hi : P.info? e = some i) (hz : i.zero = some z)
    (hsize : i.size = sz) (hsz : 0 < sz) (hby : i.bytes = bytes) (hzs : z.cells.size = sz)
    (v : Value) (n : Nat) (xs : List Value) (hsv : a.eval s = v) (hown : w.ownsRow base e sz v n xs) (xv : Value) (hx : a.eval x = xv) (m : Nat) (news : List Value) (hs : Src P sz tx xv m news w)
    (h63 : n + m ≤ maxLen) (hbytes : (n + m) * bytes ≤ 140737488355328) (hbase : base ≤ w.heap.size)
    (h : ∀ a' cap' w', w'.ownsRow base e sz (.slice a' (n + m) cap') (n + m) (xs ++ news) → w.grownBy w' v.ownBlock → (Value.ownBlock (.slice a' (n + m) cap') = v.ownBlock ∨ Value.ownBlock (.slice a' (n + m) cap') = some w.heap.size) → K (a.put o.dst (.slice a' (n + m) cap')) w') :
    if Region.wanted o (yielded ops a.tmps) = true then Oper.wp P o a w K Q else E := by
  have hw : Region.wanted o (yielded ops a.tmps) = true := by simp [Region.wanted, hgd]
  rw [if_pos hw]
  obtain ⟨v', w', hr, h2, h3, h4⟩ := run_append_sz (P := P) w t tx o.type base e i z sz bytes ht hi hz hsize hsz hby hzs v n xs hown xv m news hs h63 hbytes hbase
  unfold Oper.wp execOp
  obtain ⟨a', cap', rfl⟩ := own_form h2
  simp only [ho, resolve, invoke, builtin, Sem.run_bind, Sem.run_pure, Result.andThen_ok, List.map_toArray, List.map_cons, List.map_nil, hsv, hx, hr]
  exact h a' cap' w' h2 h3 h4
end
end Go.Proofs.YtohpaoleomcimaaGreat.mem
/-!   Package book: nodes and lines in memory.
-/
namespace Go.Proofs.YtohpaoleomcimaaGreat.bk
open Go.RowKit aid mem
attribute [local go_sem ↓] Go.wp_at_zero Go.wp_at_succ
set_option linter.unusedVariables false

theorem cofr {w : World} {B : Nat} {cs : Array Value} {t : TypeId} (h : w.heap[B]? = some (.cells cs t (0, 0))) (i : Nat) (v : Value) (hv : cs[i]? = some v) : w.cell? ⟨B, i, none⟩ = some v := (cell_of_row w B i _ _ (0, 0) h).trans hv
theorem fofr {w : World} {B : Nat} {cs : Array Value} {t : TypeId} (h : w.heap[B]? = some (.cells cs t (0, 0))) (i : Nat) : w.frozen? ⟨B, i, none⟩ = false := by simp [World.frozen?, h]
theorem al (w : World) (o : Obj) : Below w.heap.size w (w.alloc o) := (Below.refl _ _).alloc (Nat.le_refl _) _
theorem belN (w : World) (n : Nat) : Below w.heap.size w (w.drewN n) := ⟨rfl, rfl, rfl, Nat.le_refl _, fun _ _ => rfl⟩
abbrev pA (a : Option Nat) : Value := .pointer (a.map fun b => ⟨b, 0, none⟩)
abbrev rcC (r : Rc) : Array Value := #[.int .i64 r.f, .int .i64 r.t, .int .i64 r.sent, .int .i64 r.order, .int .i64 r.times, .int .i64 r.out, .bool r.lost]
abbrev rcV (r : Rc) : Value := .agg #[.int .i64 r.f, .int .i64 r.t, .int .i64 r.sent, .int .i64 r.order, .int .i64 r.times, .int .i64 r.out, .bool r.lost]
abbrev ndO (r : Rc) (a z : Option Nat) : Obj := .cells #[.int .i64 r.f, .int .i64 r.t, .int .i64 r.sent, .int .i64 r.order, .int .i64 r.times, .int .i64 r.out, .bool r.lost, pA a, pA z] 102 (0, 0)
/-- block b holds a node -/
def NdAt (w : World) (b : Nat) (r : Rc) (a z : Option Nat) : Prop := w.heap[b]? = some (ndO r a z)
section
variable {w w' : World} {b : Nat} {r : Rc} {a z : Option Nat} (h : NdAt w b r a z)
include h
theorem NdAt.cs : w.cell? ⟨b, 0, none⟩ = some (.int .i64 r.f) ∧ w.cell? ⟨b, 1, none⟩ = some (.int .i64 r.t) ∧ w.cell? ⟨b, 2, none⟩ = some (.int .i64 r.sent) ∧ w.cell? ⟨b, 3, none⟩ = some (.int .i64 r.order) ∧ w.cell? ⟨b, 4, none⟩ = some (.int .i64 r.times) ∧ w.cell? ⟨b, 5, none⟩ = some (.int .i64 r.out) ∧ w.cell? ⟨b, 6, none⟩ = some (.bool r.lost) ∧ w.cell? ⟨b, 7, none⟩ = some (pA a) ∧ w.cell? ⟨b, 8, none⟩ = some (pA z) :=
  ⟨cofr h 0 _ rfl, cofr h 1 _ rfl, cofr h 2 _ rfl, cofr h 3 _ rfl, cofr h 4 _ rfl, cofr h 5 _ rfl, cofr h 6 _ rfl, cofr h 7 _ rfl, cofr h 8 _ rfl⟩
theorem NdAt.f (i : Nat) : w.frozen? ⟨b, i, none⟩ = false := fofr h i
theorem NdAt.lt : b < w.heap.size := lt_of_block h
theorem NdAt.keep {S : List Nat} (hk : Kept S w w') (hb : b ∉ S) : NdAt w' b r a z := hk.heap hb h
theorem NdAt.later (hk : Below w.heap.size w w') : NdAt w' b r a z := (hk.block b (lt_of_block h)).trans h
theorem NdAt.setA (a' : Option Nat) : NdAt (w.setCell ⟨b, 7, none⟩ (pA a')) b r a' z := (heap_setCell_same _ b 7 _ _ _ h).trans rfl
theorem NdAt.setZ (z' : Option Nat) : NdAt (w.setCell ⟨b, 8, none⟩ (pA z')) b r a z' := (heap_setCell_same _ b 8 _ _ _ h).trans rfl
end
/-- a piece of a line: behind a, ahead of z -/
def seg (w : World) (a : Option Nat) : List Nd → Option Nat → Prop
  | [], _ => True
  | x :: l, z => NdAt w x.1 x.2 a (hd z l) ∧ seg w (some x.1) l z
theorem seg_append {w : World} {a z : Option Nat} {l r : List Nd} : seg w a (l ++ r) z ↔ seg w a l (hd z r) ∧ seg w (la a l) r z := by
  induction l generalizing a with
  | nil => simp [seg, la]
  | cons x l ih =>
    simp only [List.cons_append, seg, la]
    rw [ih, hd_append, and_assoc]
theorem seg_keep {w w' : World} {l : List Nd} (hk : ∀ x ∈ l, ∀ o, w.heap[x.1]? = some o → w'.heap[x.1]? = some o) : ∀ {a z : Option Nat}, seg w a l z → seg w' a l z := by
  induction l with
  | nil => exact fun _ => trivial
  | cons x l ih =>
    rintro a z ⟨h1, h2⟩
    exact ⟨hk x (by simp) _ h1, ih (fun y hy => hk y (List.mem_cons_of_mem _ hy)) h2⟩
theorem seg_later {w w' : World} {l : List Nd} (hb : Below w.heap.size w w') {a z : Option Nat} (h : seg w a l z) : seg w' a l z :=
  seg_keep (fun x _ o ho => (hb.block _ (lt_of_block ho)).trans ho) h
theorem seg_kept {w w' : World} {l : List Nd} {S : List Nat} (hb : Kept S w w') (hS : ∀ x ∈ l, x.1 ∉ S) {a z : Option Nat} (h : seg w a l z) : seg w' a l z :=
  seg_keep (fun x hx o ho => hb.heap (hS x hx) ho) h
theorem seg_mem {w : World} {a z : Option Nat} {l : List Nd} (h : seg w a l z) {x : Nd} (hx : x ∈ l) : ∃ p q, NdAt w x.1 x.2 p q := by
  induction l generalizing a with
  | nil => simp at hx
  | cons y l ih =>
    rcases List.mem_cons.1 hx with rfl | hx
    · exact ⟨_, _, h.1⟩
    · exact ih h.2 hx
theorem seg_lt {w : World} {a z : Option Nat} {l : List Nd} (h : seg w a l z) {x : Nd} (hx : x ∈ l) : x.1 < w.heap.size := by
  obtain ⟨p, q, hn⟩ := seg_mem h hx
  exact hn.lt
/-- the last one's 'behind' is another one -/
theorem seg_last {w w' : World} {a z z' : Option Nat} {l : List Nd} {b : Nat} {r : Rc} (h : seg w a (l ++ [(b, r)]) z) (hn : ∀ x ∈ l, x.1 ≠ b) (hk : Kept [b] w w') (hb : NdAt w b r (la a l) z → NdAt w' b r (la a l) z') : seg w' a (l ++ [(b, r)]) z' := by
  obtain ⟨h1, h2, _⟩ := seg_append.1 h
  exact seg_append.2 ⟨seg_kept hk (fun x hx => by simpa using hn x hx) h1, hb h2, trivial⟩

/-! records' own calls -/
theorem setp {w : World} {b i : Nat} {cs : Array Value} {t : TypeId} (h : w.heap[b]? = some (.cells cs t (0, 0))) (u : Value) : (w.setCell ⟨b, i, none⟩ u).heap[b]? = some (.cells (cs.setIfInBounds i u) t (0, 0)) := heap_setCell_same _ b i _ _ _ h
theorem kset (w : World) (b i : Nat) (u : Value) : Kept [b] w (w.setCell ⟨b, i, none⟩ u) := (Kept.refl [b] w).setCell (.inl (by simp)) u
theorem lose_any {w : World} {b : Nat} {r : Rc} {a z : Option Nat} (h : NdAt w b r a z) : Calls Tryz.prog 74 #[.pointer (some ⟨b, 0, none⟩)] w fun e w' => e = .returned (.bool (!r.lost)) ∧ NdAt w' b r.lose a z ∧ Kept [b] w w' := by
  have HB := Lib.hid h
  obtain ⟨c0, c1, c2, c3, c4, c5, c6, c7, c8⟩ := h.cs
  have f5 := h.f 5; have f6 := h.f 6
  clear h
  go_enter Tryz.func74, Tryz.ntmps74
  go_wp2_with fail
  go_ret
  exact ⟨rfl, (setp (setp HB.out _) _).trans rfl, ((Kept.refl [b] w).setCell (.inl (by simp)) _).setCell (.inl (by simp)) _⟩
theorem goes_any {w : World} {b : Nat} {r : Rc} {a z : Option Nat} (h : NdAt w b r a z) (now order : Int) (h1 : -4611686018427387904 ≤ r.times ∧ r.times ≤ 4611686018427387904) (h2 : -4611686018427387904 ≤ r.out ∧ r.out ≤ 4611686018427387904) : Calls Tryz.prog 104 #[.pointer (some ⟨b, 0, none⟩), .int .i64 now, .int .i64 order] w fun e w' => (∃ v, e = .returned v) ∧ NdAt w' b (r.goes now order) a z ∧ Kept [b] w w' := by
  have HB := Lib.hid h
  obtain ⟨c0, c1, c2, c3, c4, c5, c6, c7, c8⟩ := h.cs
  have f2 := h.f 2; have f3 := h.f 3; have f4 := h.f 4; have f5 := h.f 5; have f6 := h.f 6
  obtain ⟨t1, t2⟩ := h1
  obtain ⟨o1, o2⟩ := h2
  clear h
  go_enter Tryz.func104, Tryz.ntmps104
  go_wp2_with fail
  go_end0
  exact ⟨⟨_, rfl⟩, (setp (setp (setp (setp (setp HB.out _) _) _) _) _).trans rfl, (((((Kept.refl [b] w).setCell (.inl (by simp)) _).setCell (.inl (by simp)) _).setCell (.inl (by simp)) _).setCell (.inl (by simp)) _).setCell (.inl (by simp)) _⟩
end Go.Proofs.YtohpaoleomcimaaGreat.bk
/-!   Package book: a line's add and cut.
-/
namespace Go.Proofs.YtohpaoleomcimaaGreat.bk
open Go.RowKit aid mem
attribute [local go_sem ↓] Go.wp_at_zero Go.wp_at_succ
set_option linter.unusedVariables false

/-- the book's own cells -/
structure Hd where
  nxt : Int
  sent : Int
  now : Int
abbrev bkO (s : Hd) (T : Nat) (f l : Option Nat) : Obj := .cells #[.int .i64 s.nxt, .int .i64 s.sent, .int .i64 s.now, .pointer (some ⟨T, 0, none⟩), pA f, pA l] 96 (0, 0)
def BlAt (w : World) (B : Nat) (s : Hd) (T : Nat) (f l : Option Nat) : Prop := w.heap[B]? = some (bkO s T f l)
section
variable {w w' : World} {B T : Nat} {s : Hd} {fi l : Option Nat} (h : BlAt w B s T fi l)
include h
theorem BlAt.cs : w.cell? ⟨B, 0, none⟩ = some (.int .i64 s.nxt) ∧ w.cell? ⟨B, 1, none⟩ = some (.int .i64 s.sent) ∧ w.cell? ⟨B, 2, none⟩ = some (.int .i64 s.now) ∧ w.cell? ⟨B, 3, none⟩ = some (.pointer (some ⟨T, 0, none⟩)) ∧ w.cell? ⟨B, 4, none⟩ = some (pA fi) ∧ w.cell? ⟨B, 5, none⟩ = some (pA l) :=
  ⟨cofr h 0 _ rfl, cofr h 1 _ rfl, cofr h 2 _ rfl, cofr h 3 _ rfl, cofr h 4 _ rfl, cofr h 5 _ rfl⟩
theorem BlAt.f (i : Nat) : w.frozen? ⟨B, i, none⟩ = false := fofr h i
theorem BlAt.lt : B < w.heap.size := lt_of_block h
theorem BlAt.keep {S : List Nat} (hk : Kept S w w') (hb : B ∉ S) : BlAt w' B s T fi l := hk.heap hb h
theorem BlAt.later (hk : Below w.heap.size w w') : BlAt w' B s T fi l := (hk.block B (lt_of_block h)).trans h
theorem BlAt.setF (f' : Option Nat) : BlAt (w.setCell ⟨B, 4, none⟩ (pA f')) B s T f' l := (heap_setCell_same _ B 4 _ _ _ h).trans rfl
theorem BlAt.setL (l' : Option Nat) : BlAt (w.setCell ⟨B, 5, none⟩ (pA l')) B s T fi l' := (heap_setCell_same _ B 5 _ _ _ h).trans rfl
end
/-- what a line's change writes: the book, the node, its neighbours -/
def Nb : Option Nat → List Nat
  | none => []
  | some b => [b]
/-- the book's block and its line -/
structure Ln (w : World) (B : Nat) (s : Hd) (T : Nat) (L : List Nd) : Prop where
  bk : BlAt w B s T (hd none L) (la none L)
  sg : seg w none L none
  nd : (L.map (·.1)).Nodup
  nB : ∀ x ∈ L, x.1 ≠ B
theorem Ln.later {w w' : World} {B T : Nat} {s : Hd} {L : List Nd} (h : Ln w B s T L) (hb : Below w.heap.size w w') : Ln w' B s T L := ⟨h.bk.later hb, seg_later hb h.sg, h.nd, h.nB⟩
theorem Ln.kept {w w' : World} {B T : Nat} {s : Hd} {L : List Nd} {S : List Nat} (h : Ln w B s T L) (hk : Kept S w w') (hB : B ∉ S) (hL : ∀ x ∈ L, x.1 ∉ S) : Ln w' B s T L := ⟨h.bk.keep hk hB, seg_kept hk hL h.sg, h.nd, h.nB⟩
theorem Ln.lt {w : World} {B T : Nat} {s : Hd} {L : List Nd} (h : Ln w B s T L) {x : Nd} (hx : x ∈ L) : x.1 < w.heap.size := seg_lt h.sg hx
theorem nodup_snoc {L : List Nd} {n : Nat} {r : Rc} (h : (L.map (·.1)).Nodup) (hn : ∀ x ∈ L, x.1 ≠ n) : ((L ++ [(n, r)]).map (·.1)).Nodup := by
  rw [List.map_append]
  refine List.nodup_append.2 ⟨h, by simp, ?_⟩
  intro a ha b hb
  simp at hb
  subst hb
  obtain ⟨x, hx, rfl⟩ := List.mem_map.1 ha
  exact hn x hx
set_option maxHeartbeats 1000000 in
theorem add_any {w : World} {B T n : Nat} {s : Hd} {L : List Nd} {r : Rc} {a : Option Nat} (h : Ln w B s T L) (hn : NdAt w n r a none) (hnB : n ≠ B) (hnL : ∀ x ∈ L, x.1 ≠ n) :
    Calls Tryz.prog 52 #[.pointer (some ⟨B, 4, none⟩), .pointer (some ⟨n, 0, none⟩)] w fun e w' => (∃ v, e = .returned v) ∧ Ln w' B s T (L ++ [(n, r)]) ∧ Kept (B :: n :: Nb (la none L)) w w' := by
  have hnd := nodup_snoc (r := r) h.nd hnL
  have hnb : ∀ x ∈ L ++ [(n, r)], x.1 ≠ B := fun x hx => by
    rcases List.mem_append.1 hx with hx | hx
    · exact h.nB x hx
    · simp at hx; subst hx; exact hnB
  have hBn := hnB.symm
  rcases List.eq_nil_or_concat L with rfl | ⟨L', ⟨m, rm⟩, rfl⟩
  · obtain ⟨c0, c1, c2, c3, c4, c5⟩ := h.bk.cs
    have g4 := h.bk.f 4; have g5 := h.bk.f 5
    have f7 := hn.f 7
    obtain ⟨_, _, _, _, _, _, _, n7, n8⟩ := hn.cs
    simp only [hd, la, pA, Option.map] at c4 c5
    have HD := Lib.hid hnd
    have HB := Lib.hid hnb
    have k1 := kset w n 7 (pA none)
    have HF : Hid (∀ W, W = ((w.setCell ⟨n, 7, none⟩ (pA none)).setCell ⟨B, 4, none⟩ (pA (some n))).setCell ⟨B, 5, none⟩ (pA (some n)) → Ln W B s T ([] ++ [(n, r)]) ∧ Kept (B :: n :: Nb (la none [])) w W) := by
      refine Lib.hid ?_
      rintro W rfl
      have b1 := BlAt.setL (BlAt.setF (h.bk.keep k1 (by simpa using hnB.symm)) (some n)) (some n)
      have n1 := hn.setA none
      have k2 := kset (w.setCell ⟨n, 7, none⟩ (pA none)) B 4 (pA (some n))
      have k3 := kset ((w.setCell ⟨n, 7, none⟩ (pA none)).setCell ⟨B, 4, none⟩ (pA (some n))) B 5 (pA (some n))
      have n2 := (n1.keep k2 (by simpa using hnB)).keep k3 (by simpa using hnB)
      exact ⟨⟨b1, ⟨n2, trivial⟩, hnd, hnb⟩, ((k1.mono (by simp)).trans k2 (by simp)).trans k3 (by simp)⟩
    clear h hn hnd hnb k1
    go_enter Tryz.func52, Tryz.ntmps52
    go_wp2_with fail
    go_end0
    exact ⟨⟨_, rfl⟩, HF.out _ rfl⟩
  · rw [List.concat_eq_append] at *
    obtain ⟨c0, c1, c2, c3, c4, c5⟩ := h.bk.cs
    have g4 := h.bk.f 4; have g5 := h.bk.f 5
    have f7 := hn.f 7
    obtain ⟨_, _, _, _, _, _, _, n7, n8⟩ := hn.cs
    have hmn : m ≠ n := hnL (m, rm) (by simp)
    have hmB : m ≠ B := h.nB (m, rm) (by simp)
    have hnm := hmn.symm; have hBm := hmB.symm
    rw [la_append] at c5
    simp only [la, pA, Option.map] at c5
    have hm := (seg_append.1 h.sg).2.1
    have m8 := hm.f 8
    obtain ⟨_, _, _, _, _, _, _, m7, m8c⟩ := hm.cs
    have hfn : w.frozen? ⟨m, 8, none⟩ = false := m8
    have HF : Hid (∀ W, W = ((w.setCell ⟨n, 7, none⟩ (pA (some m))).setCell ⟨m, 8, none⟩ (pA (some n))).setCell ⟨B, 5, none⟩ (pA (some n)) → Ln W B s T ((L' ++ [(m, rm)]) ++ [(n, r)]) ∧ Kept (B :: n :: Nb (la none (L' ++ [(m, rm)]))) w W) := by
      refine Lib.hid ?_
      rintro W rfl
      have k1 := kset w n 7 (pA (some m))
      have k2 := kset (w.setCell ⟨n, 7, none⟩ (pA (some m))) m 8 (pA (some n))
      have k3 := kset ((w.setCell ⟨n, 7, none⟩ (pA (some m))).setCell ⟨m, 8, none⟩ (pA (some n))) B 5 (pA (some n))
      have b1 := BlAt.setL ((h.bk.keep k1 (by simpa using hnB.symm)).keep k2 (by simpa using hmB.symm)) (some n)
      have n1 := ((hn.setA (some m)).keep k2 (by simpa using hmn.symm)).keep k3 (by simpa using hnB)
      have k123 : Kept (B :: n :: m :: []) w _ := ((k1.mono (by simp)).trans k2 (by simp)).trans k3 (by simp)
      have hm1 := ((hm.keep k1 (by simpa using hmn)).setZ (some n)).keep k3 (by simpa using hmB)
      have hl : seg _ none L' (hd none [(m, rm)]) := seg_kept k123 (fun x hx => by
        have e1 := hnL x (by simp [hx])
        have e2 := h.nB x (by simp [hx])
        have e3 : x.1 ≠ m := by
          have := h.nd
          rw [List.map_append] at this
          exact (List.nodup_append.1 this).2.2 x.1 (List.mem_map.2 ⟨x, hx, rfl⟩) m (by simp)
        simp [e1, e2, e3]) (seg_append.1 h.sg).1
      refine ⟨⟨?_, seg_append.2 ⟨seg_append.2 ⟨hl, hm1, trivial⟩, ?_, trivial⟩, hnd, hnb⟩, ?_⟩
      · rw [la_append, List.append_assoc, hd_append]
        rw [hd_append] at b1
        exact b1
      · rw [la_append]; exact n1
      · rw [la_append]; exact k123
    clear h hn hnd hnb hm
    simp only [pA, Option.map] at HF m8c
    go_enter Tryz.func52, Tryz.ntmps52
    go_wp2_with fail
    go_end0
    have hfin := HF.out _ rfl
    rw [List.append_assoc] at hfin
    exact ⟨⟨_, rfl⟩, hfin⟩

theorem nodup_mid {P Q : List Nd} {n : Nat} {r : Rc} (h : ((P ++ (n, r) :: Q).map (·.1)).Nodup) : ((P ++ Q).map (·.1)).Nodup ∧ (∀ x ∈ P, x.1 ≠ n) ∧ (∀ x ∈ Q, x.1 ≠ n) ∧ ∀ x ∈ P, ∀ y ∈ Q, x.1 ≠ y.1 := by
  rw [List.map_append, List.map_cons] at h
  obtain ⟨h1, h2, h3⟩ := List.nodup_append.1 h
  obtain ⟨h4, h5⟩ := List.nodup_cons.1 h2
  refine ⟨?_, fun x hx => h3 x.1 (List.mem_map.2 ⟨x, hx, rfl⟩) n (by simp), fun x hx e => h4 (List.mem_map.2 ⟨x, hx, e⟩), fun x hx y hy => h3 x.1 (List.mem_map.2 ⟨x, hx, rfl⟩) y.1 (by simp; exact .inr ⟨y.2, hy⟩)⟩
  rw [List.map_append]
  exact List.nodup_append.2 ⟨h1, h5, fun a ha b hb => h3 a ha b (List.mem_cons_of_mem _ hb)⟩
/-- the line once a node is out -/
def CutP (B T n : Nat) (s : Hd) (P Q : List Nd) (r : Rc) (w : World) (W : World) : Prop := Ln W B s T (P ++ Q) ∧ NdAt W n r none none ∧ Kept (B :: n :: (Nb (la none P) ++ Nb (hd none Q))) w W
theorem cut_nn {w : World} {B T n : Nat} {s : Hd} {r : Rc} (h : Ln w B s T ([] ++ (n, r) :: [])) :
    CutP B T n s [] [] r w ((((w.setCell ⟨B, 4, none⟩ (pA none)).setCell ⟨B, 5, none⟩ (pA none)).setCell ⟨n, 7, none⟩ (pA none)).setCell ⟨n, 8, none⟩ (pA none)) := by
  have hnB := h.nB (n, r) (by simp)
  have k1 := kset w B 4 (pA none)
  have k2 := kset (w.setCell ⟨B, 4, none⟩ (pA none)) B 5 (pA none)
  have k3 := kset ((w.setCell ⟨B, 4, none⟩ (pA none)).setCell ⟨B, 5, none⟩ (pA none)) n 7 (pA none)
  have k4 := kset (((w.setCell ⟨B, 4, none⟩ (pA none)).setCell ⟨B, 5, none⟩ (pA none)).setCell ⟨n, 7, none⟩ (pA none)) n 8 (pA none)
  have hn := (seg_append.1 h.sg).2.1
  have b := (((h.bk.setF none).setL none).keep k3 (by simpa using hnB.symm)).keep k4 (by simpa using hnB.symm)
  have m := ((((hn.keep k1 (by simpa using hnB)).keep k2 (by simpa using hnB)).setA none).setZ none)
  exact ⟨⟨b, trivial, by simp, by simp⟩, m, (((k1.mono (by simp)).trans k2 (by simp)).trans k3 (by simp)).trans k4 (by simp)⟩
theorem cut_nc {w : World} {B T n : Nat} {s : Hd} {r : Rc} {q : Nd} {Q : List Nd} (h : Ln w B s T ([] ++ (n, r) :: (q :: Q))) :
    CutP B T n s [] (q :: Q) r w ((((w.setCell ⟨B, 4, none⟩ (pA (some q.1))).setCell ⟨q.1, 7, none⟩ (pA none)).setCell ⟨n, 7, none⟩ (pA none)).setCell ⟨n, 8, none⟩ (pA none)) := by
  have hnB := h.nB (n, r) (by simp)
  have hqB := h.nB q (by simp)
  obtain ⟨d1, d2, d3, d4⟩ := nodup_mid h.nd
  have hqn := d3 q (by simp)
  have k1 := kset w B 4 (pA (some q.1))
  have k2 := kset (w.setCell ⟨B, 4, none⟩ (pA (some q.1))) q.1 7 (pA none)
  have k3 := kset ((w.setCell ⟨B, 4, none⟩ (pA (some q.1))).setCell ⟨q.1, 7, none⟩ (pA none)) n 7 (pA none)
  have k4 := kset (((w.setCell ⟨B, 4, none⟩ (pA (some q.1))).setCell ⟨q.1, 7, none⟩ (pA none)).setCell ⟨n, 7, none⟩ (pA none)) n 8 (pA none)
  have hn := (seg_append.1 h.sg).2.1
  have hq := (seg_append.1 h.sg).2.2.1
  have hQ := (seg_append.1 h.sg).2.2.2
  have b := (((h.bk.setF (some q.1)).keep k2 (by simpa using hqB.symm)).keep k3 (by simpa using hnB.symm)).keep k4 (by simpa using hnB.symm)
  have m := ((((hn.keep k1 (by simpa using hnB)).keep k2 (by simpa using hqn.symm)).setA none).setZ none)
  have e := (((hq.keep k1 (by simpa using hqB)).setA none).keep k3 (by simpa using hqn)).keep k4 (by simpa using hqn)
  have k : Kept (B :: n :: (Nb (la none []) ++ Nb (hd none (q :: Q)))) w _ := (((k1.mono (by simp)).trans k2 (by simp [Nb, hd])).trans k3 (by simp)).trans k4 (by simp)
  have hdq : ∀ x ∈ Q, x.1 ≠ q.1 := by
    have := d1
    simp only [List.nil_append, List.map_cons] at this
    exact fun x hx e => (List.nodup_cons.1 this).1 (List.mem_map.2 ⟨x, hx, e⟩)
  refine ⟨⟨b, ⟨e, seg_kept k (fun x hx => ?_) hQ⟩, d1, fun x hx => h.nB x (by simp at hx ⊢; rcases hx with hx | hx; exact .inr (.inl hx); exact .inr (.inr hx))⟩, m, k⟩
  have e1 := h.nB x (by simp [hx])
  have e2 := d3 x (by simp [hx])
  have e3 := hdq x hx
  simp [Nb, la, hd, e1, e2, e3]
theorem cut_sn {w : World} {B T n : Nat} {s : Hd} {r : Rc} {m : Nat} {rm : Rc} {P : List Nd} (h : Ln w B s T ((P ++ [(m, rm)]) ++ (n, r) :: [])) :
    CutP B T n s (P ++ [(m, rm)]) [] r w ((((w.setCell ⟨m, 8, none⟩ (pA none)).setCell ⟨B, 5, none⟩ (pA (some m))).setCell ⟨n, 7, none⟩ (pA none)).setCell ⟨n, 8, none⟩ (pA none)) := by
  have hnB := h.nB (n, r) (by simp)
  have hmB := h.nB (m, rm) (by simp)
  obtain ⟨d1, d2, d3, d4⟩ := nodup_mid h.nd
  have hmn : m ≠ n := d2 (m, rm) (by simp)
  have k1 := kset w m 8 (pA none)
  have k2 := kset (w.setCell ⟨m, 8, none⟩ (pA none)) B 5 (pA (some m))
  have k3 := kset ((w.setCell ⟨m, 8, none⟩ (pA none)).setCell ⟨B, 5, none⟩ (pA (some m))) n 7 (pA none)
  have k4 := kset (((w.setCell ⟨m, 8, none⟩ (pA none)).setCell ⟨B, 5, none⟩ (pA (some m))).setCell ⟨n, 7, none⟩ (pA none)) n 8 (pA none)
  obtain ⟨s1, hn, _⟩ := seg_append.1 h.sg
  obtain ⟨hP, hm, _⟩ := seg_append.1 s1
  have b := (((h.bk.keep k1 (by simpa using hmB.symm)).setL (some m)).keep k3 (by simpa using hnB.symm)).keep k4 (by simpa using hnB.symm)
  have mm := ((((hn.keep k1 (by simpa using hmn.symm)).keep k2 (by simpa using hnB)).setA none).setZ none)
  have e := (((hm.setZ none).keep k2 (by simpa using hmB)).keep k3 (by simpa using hmn)).keep k4 (by simpa using hmn)
  have hla : la none (P ++ [(m, rm)]) = some m := by rw [la_append]; rfl
  have k : Kept (B :: n :: (Nb (la none (P ++ [(m, rm)])) ++ Nb (hd none []))) w _ := (((k1.mono (by rw [hla]; simp [Nb])).trans k2 (by simp)).trans k3 (by simp)).trans k4 (by simp)
  have hdp : ∀ x ∈ P, x.1 ≠ m := by
    have := d1
    rw [List.append_nil, List.map_append] at this
    exact fun x hx => (List.nodup_append.1 this).2.2 x.1 (List.mem_map.2 ⟨x, hx, rfl⟩) m (by simp)
  refine ⟨⟨?_, ?_, d1, fun x hx => h.nB x (by rw [List.append_nil] at hx; exact List.mem_append.2 (.inl hx))⟩, mm, k⟩
  · rw [List.append_nil, hla]
    have hh : hd none (P ++ [(m, rm)] ++ (n, r) :: []) = hd none (P ++ [(m, rm)]) := by rw [hd_append, hd_append, hd_append]; cases P <;> rfl
    rw [hh] at b
    exact b
  · rw [List.append_nil]
    refine seg_append.2 ⟨seg_kept k (fun x hx => ?_) hP, e, trivial⟩
    have e1 := h.nB x (by simp [hx])
    have e2 := d2 x (by simp [hx])
    have e3 := hdp x hx
    rw [hla]
    simp [Nb, hd, e1, e2, e3]
theorem cut_sc {w : World} {B T n : Nat} {s : Hd} {r : Rc} {m : Nat} {rm : Rc} {P : List Nd} {q : Nd} {Q : List Nd} (h : Ln w B s T ((P ++ [(m, rm)]) ++ (n, r) :: (q :: Q))) :
    CutP B T n s (P ++ [(m, rm)]) (q :: Q) r w ((((w.setCell ⟨m, 8, none⟩ (pA (some q.1))).setCell ⟨q.1, 7, none⟩ (pA (some m))).setCell ⟨n, 7, none⟩ (pA none)).setCell ⟨n, 8, none⟩ (pA none)) := by
  have hnB := h.nB (n, r) (by simp)
  have hmB := h.nB (m, rm) (by simp)
  have hqB := h.nB q (by simp)
  obtain ⟨d1, d2, d3, d4⟩ := nodup_mid h.nd
  have hmn : m ≠ n := d2 (m, rm) (by simp)
  have hqn := d3 q (by simp)
  have hmq : m ≠ q.1 := d4 (m, rm) (by simp) q (by simp)
  have k1 := kset w m 8 (pA (some q.1))
  have k2 := kset (w.setCell ⟨m, 8, none⟩ (pA (some q.1))) q.1 7 (pA (some m))
  have k3 := kset ((w.setCell ⟨m, 8, none⟩ (pA (some q.1))).setCell ⟨q.1, 7, none⟩ (pA (some m))) n 7 (pA none)
  have k4 := kset (((w.setCell ⟨m, 8, none⟩ (pA (some q.1))).setCell ⟨q.1, 7, none⟩ (pA (some m))).setCell ⟨n, 7, none⟩ (pA none)) n 8 (pA none)
  obtain ⟨s1, hn, hq, hQ⟩ := seg_append.1 h.sg
  obtain ⟨hP, hm, _⟩ := seg_append.1 s1
  have b := (((h.bk.keep k1 (by simpa using hmB.symm)).keep k2 (by simpa using hqB.symm)).keep k3 (by simpa using hnB.symm)).keep k4 (by simpa using hnB.symm)
  have mm := ((((hn.keep k1 (by simpa using hmn.symm)).keep k2 (by simpa using hqn.symm)).setA none).setZ none)
  have e := (((hm.setZ (some q.1)).keep k2 (by simpa using hmq)).keep k3 (by simpa using hmn)).keep k4 (by simpa using hmn)
  have eq := (((hq.keep k1 (by simpa using hmq.symm)).setA (some m)).keep k3 (by simpa using hqn)).keep k4 (by simpa using hqn)
  have hla : la none (P ++ [(m, rm)]) = some m := by rw [la_append]; rfl
  have k : Kept (B :: n :: (Nb (la none (P ++ [(m, rm)])) ++ Nb (hd none (q :: Q)))) w _ := (((k1.mono (by rw [hla]; simp [Nb])).trans k2 (by simp [Nb, hd])).trans k3 (by simp)).trans k4 (by simp)
  have hdp : ∀ x ∈ P, x.1 ≠ m := by
    have := d1
    rw [List.map_append, List.map_append] at this
    exact fun x hx => (List.nodup_append.1 (List.nodup_append.1 this).1).2.2 x.1 (List.mem_map.2 ⟨x, hx, rfl⟩) m (by simp)
  have hdq : ∀ x ∈ Q, x.1 ≠ q.1 := by
    have := d1
    rw [List.map_append, List.map_cons] at this
    exact fun x hx e => (List.nodup_cons.1 (List.nodup_append.1 this).2.1).1 (List.mem_map.2 ⟨x, hx, e⟩)
  refine ⟨⟨?_, ?_, d1, fun x hx => h.nB x (by rcases List.mem_append.1 hx with hx | hx; exact List.mem_append.2 (.inl hx); exact List.mem_append.2 (.inr (List.mem_cons_of_mem _ hx)))⟩, mm, k⟩
  · have hh : hd none (P ++ [(m, rm)] ++ (n, r) :: q :: Q) = hd none (P ++ [(m, rm)] ++ q :: Q) := by rw [hd_append, hd_append, hd_append, hd_append]; cases P <;> rfl
    have hl : la none (P ++ [(m, rm)] ++ (n, r) :: q :: Q) = la none (P ++ [(m, rm)] ++ q :: Q) := by rw [la_append none (P ++ [(m, rm)]) ((n, r) :: q :: Q), la_append none (P ++ [(m, rm)]) (q :: Q)]; rfl
    rw [hh, hl] at b
    exact b
  · refine seg_append.2 ⟨seg_append.2 ⟨seg_kept k (fun x hx => ?_) hP, e, trivial⟩, ?_, seg_kept k (fun x hx => ?_) hQ⟩
    · have e1 := h.nB x (by simp [hx])
      have e2 := d2 x (by simp [hx])
      have e3 := hdp x hx
      have e4 := d4 x (by simp [hx]) q (by simp)
      rw [hla]
      simp [Nb, hd, e1, e2, e3, e4]
    · rw [hla]; exact eq
    · have e1 := h.nB x (by simp [hx])
      have e2 := d3 x (by simp [hx])
      have e3 := hdq x hx
      have e4 := d4 (m, rm) (by simp) x (by simp [hx])
      rw [hla]
      simp [Nb, hd, e1, e2, e3, Ne.symm e4]
end Go.Proofs.YtohpaoleomcimaaGreat.bk
/-!   Package book: a line's cut, walked; goes, may.
-/
namespace Go.Proofs.YtohpaoleomcimaaGreat.bk
open Go.RowKit aid mem
attribute [local go_sem ↓] Go.wp_at_zero Go.wp_at_succ
set_option linter.unusedVariables false

theorem CutP.drew {B T n : Nat} {s : Hd} {P Q : List Nd} {r : Rc} {w W : World} (h : CutP B T n s P Q r w.drew W) : CutP B T n s P Q r w W := ⟨h.1, h.2.1, ⟨h.2.2.os, h.2.2.tape, h.2.2.output, h.2.2.size, h.2.2.block⟩⟩
theorem Ln.drew {w : World} {B T : Nat} {s : Hd} {L : List Nd} (h : Ln w B s T L) : Ln w.drew B s T L := h.later (Below.refl _ _).drew
theorem ln_cells {w : World} {B T n : Nat} {s : Hd} {P Q : List Nd} {r : Rc} (h : Ln w B s T (P ++ (n, r) :: Q)) :
    w.cell? ⟨n, 7, none⟩ = some (pA (la none P)) ∧ w.cell? ⟨n, 8, none⟩ = some (pA (hd none Q)) ∧ n ≠ B := by
  obtain ⟨s1, hn, s2⟩ := seg_append.1 h.sg
  obtain ⟨_, _, _, _, _, _, _, c7, c8⟩ := NdAt.cs hn
  exact ⟨c7, c8, h.nB (n, r) (by simp)⟩
set_option maxRecDepth 100000 in
set_option maxHeartbeats 1000000 in
theorem cut_any {w : World} {B T n : Nat} {s : Hd} {P Q : List Nd} {r : Rc} (h : Ln w B s T (P ++ (n, r) :: Q)) :
    Calls Tryz.prog 65 #[.pointer (some ⟨B, 4, none⟩), .pointer (some ⟨n, 0, none⟩)] w fun e w' => (∃ v, e = .returned v) ∧ CutP B T n s P Q r w w' := by
  obtain ⟨c0, c1, c2, c3, c4, c5⟩ := h.bk.cs
  have g4 := h.bk.f 4; have g5 := h.bk.f 5
  obtain ⟨n7, n8, hnB⟩ := ln_cells h
  have hBn := hnB.symm
  obtain ⟨s1, hn, s2⟩ := seg_append.1 h.sg
  have f7 := NdAt.f hn 7; have f8 := NdAt.f hn 8
  clear hn
  obtain ⟨d1, d2, d3, d4⟩ := nodup_mid h.nd
  rcases List.eq_nil_or_concat P with rfl | ⟨P', ⟨m, rm⟩, rfl⟩
  · cases Q with
    | nil =>
      have HF := Lib.hid (cut_nn h)
      simp only [hd, la, pA, Option.map] at n7 n8 HF
      clear h s1 s2 d1 d2 d3 d4
      go_enter Tryz.func65, Tryz.ntmps65
      go_wp2_with fail
      go_end0
      exact ⟨⟨_, rfl⟩, HF.out⟩
    | cons q Q =>
      have HF := Lib.hid (cut_nc h.drew).drew
      have hq := s2.1
      obtain ⟨_, _, _, _, _, _, _, q7, q8⟩ := NdAt.cs hq
      have fq := NdAt.f hq 7
      have hqB := h.nB q (by simp)
      have hBq := hqB.symm
      have hqn := d3 q (by simp)
      have hnq := hqn.symm
      simp only [hd, la, pA, Option.map] at n7 n8 HF
      clear h s1 s2 d1 d2 d3 d4 hq
      go_enter Tryz.func65, Tryz.ntmps65
      go_wp2_with fail
      have kk := kset w B 4 (.pointer (some ⟨q.1, 0, none⟩))
      have e8 := kk.cell (p := ⟨n, 8, none⟩) (by simpa using hnB) n8
      have e7 := kk.cell (p := ⟨n, 7, none⟩) (by simpa using hnB) n7
      have eq7 := kk.cell (p := ⟨q.1, 7, none⟩) (by simpa using hqB) q7
      have efq := (kk.frozen (p := ⟨q.1, 7, none⟩) (by simpa using hqB) q7).trans fq
      have HF2 : Hid (CutP B T n s [] (q :: Q) r w ((((w.setCell ⟨B, 4, none⟩ (.pointer (some ⟨q.1, 0, none⟩))).drew.setCell ⟨q.1, 7, none⟩ (.pointer none)).setCell ⟨n, 7, none⟩ (.pointer none)).setCell ⟨n, 8, none⟩ (.pointer none))) := HF
      have ef7 := (kk.frozen (p := ⟨n, 7, none⟩) (by simpa using hnB) n7).trans f7
      have ef8 := (kk.frozen (p := ⟨n, 8, none⟩) (by simpa using hnB) n8).trans f8
      clear kk q7 q8 fq f7 f8 n7 n8 HF c0 c1 c2 c3 c4 c5 g4 g5
      generalize w.setCell ⟨B, 4, none⟩ (.pointer (some ⟨q.1, 0, none⟩)) = W at *
      go_still_tail 10, (by kernel_rfl)
      go_wp2_with fail
      go_end0
      exact ⟨⟨_, rfl⟩, HF2.out⟩
  · rw [List.concat_eq_append] at *
    have hm := (seg_append.1 s1).2.1
    obtain ⟨_, _, _, _, _, _, _, m7, m8⟩ := NdAt.cs hm
    have fm := NdAt.f hm 8
    have hmB := h.nB (m, rm) (by simp)
    have hBm := hmB.symm
    have hmn : m ≠ n := d2 (m, rm) (by simp)
    have hnm := hmn.symm
    have hla : la none (P' ++ [(m, rm)]) = some m := by rw [la_append]; rfl
    rw [hla] at n7
    cases Q with
    | nil =>
      have HF := Lib.hid (cut_sn h.drew).drew
      simp only [hd, pA, Option.map] at n7 n8 HF
      clear h s1 s2 d1 d2 d3 d4 hm hla
      go_enter Tryz.func65, Tryz.ntmps65
      go_wp2_with fail
      go_still_tail 10, (by kernel_rfl)
      go_wp2_with fail
      go_end0
      exact ⟨⟨_, rfl⟩, HF.out⟩
    | cons q Q =>
      have HF := Lib.hid (cut_sc h.drew.drew).drew.drew
      have hq := s2.1
      obtain ⟨_, _, _, _, _, _, _, q7, q8⟩ := NdAt.cs hq
      have fq := NdAt.f hq 7
      have hqB := h.nB q (by simp)
      have hBq := hqB.symm
      have hqn := d3 q (by simp)
      have hnq := hqn.symm
      have hmq : m ≠ q.1 := d4 (m, rm) (by simp) q (by simp)
      have hqm := hmq.symm
      simp only [hd, pA, Option.map] at n7 n8 HF
      clear h s1 s2 d1 d2 d3 d4 hm hla hq
      go_enter Tryz.func65, Tryz.ntmps65
      go_wp2_with fail
      go_still_tail 10, (by kernel_rfl)
      go_wp2_with fail
      have kk := (kset w m 8 (.pointer (some ⟨q.1, 0, none⟩))).drew
      have e8 := kk.cell (p := ⟨n, 8, none⟩) (by simpa using hnm) n8
      have e7 := kk.cell (p := ⟨n, 7, none⟩) (by simpa using hnm) n7
      have eq7 := kk.cell (p := ⟨q.1, 7, none⟩) (by simpa using hqm) q7
      have efq := (kk.frozen (p := ⟨q.1, 7, none⟩) (by simpa using hqm) q7).trans fq
      have HF2 : Hid (CutP B T n s (P' ++ [(m, rm)]) (q :: Q) r w ((((w.setCell ⟨m, 8, none⟩ (.pointer (some ⟨q.1, 0, none⟩))).drew.drew.setCell ⟨q.1, 7, none⟩ (.pointer (some ⟨m, 0, none⟩))).setCell ⟨n, 7, none⟩ (.pointer none)).setCell ⟨n, 8, none⟩ (.pointer none))) := HF
      have ef7 := (kk.frozen (p := ⟨n, 7, none⟩) (by simpa using hnm) n7).trans f7
      have ef8 := (kk.frozen (p := ⟨n, 8, none⟩) (by simpa using hnm) n8).trans f8
      clear kk q7 q8 fq f7 f8 n7 n8 HF c0 c1 c2 c3 c4 c5 g4 g5 m7 m8 fm
      generalize (w.setCell ⟨m, 8, none⟩ (.pointer (some ⟨q.1, 0, none⟩))).drew = W at *
      go_still_tail 10, (by kernel_rfl)
      go_wp2_with fail
      go_end0
      exact ⟨⟨_, rfl⟩, HF2.out⟩
end Go.Proofs.YtohpaoleomcimaaGreat.bk
/-!   Package book: New, may, goes.
-/
namespace Go.Proofs.YtohpaoleomcimaaGreat.bk
open Go.RowKit aid mem
attribute [local go_sem ↓] Go.wp_at_zero Go.wp_at_succ
set_option linter.unusedVariables false

theorem may_eq {w : World} {B T : Nat} {s : Hd} {f l : Option Nat} (h : BlAt w B s T f l) (now : Int) : Calls Tryz.prog 68 #[.pointer (some ⟨B, 0, none⟩), .int .i64 now] w fun e w' => e = .returned (.bool (decide (s.now ≤ now) && decide (now ≤ 4611686018427387904))) ∧ w = w' := by
  obtain ⟨c0, c1, c2, c3, c4, c5⟩ := h.cs
  by_cases h1 : s.now ≤ now
  · have h1b := decide_eq_true h1
    go_enter Tryz.func68, Tryz.ntmps68
    go_wp2_with fail
    go_ret
    exact ⟨ret_b (by simp [h1]), rfl⟩
  · have h1b := decide_eq_false h1
    go_enter Tryz.func68, Tryz.ntmps68
    go_wp2_with fail
    go_ret
    exact ⟨ret_b (by simp [h1]), rfl⟩
/-- once more is sent -/
def Hd.goes (s : Hd) (now : Int) : Hd := ⟨s.nxt, s.sent + 1, now⟩
theorem hd_set {w : World} {B T : Nat} {s : Hd} {L : List Nd} (h : Ln w B s T L) (now : Int) :
    Ln ((w.setCell ⟨B, 1, none⟩ (.int .i64 (s.sent + 1))).setCell ⟨B, 2, none⟩ (.int .i64 now)) B (s.goes now) T L ∧ Kept [B] w ((w.setCell ⟨B, 1, none⟩ (.int .i64 (s.sent + 1))).setCell ⟨B, 2, none⟩ (.int .i64 now)) := by
  have k : Kept [B] w _ := (kset w B 1 (.int .i64 (s.sent + 1))).setCell (p := ⟨B, 2, none⟩) (.inl (by simp)) (.int .i64 now)
  exact ⟨⟨(setp (setp h.bk _) _).trans rfl, seg_kept k (fun x hx => by simpa using h.nB x hx) h.sg, h.nd, h.nB⟩, k⟩
set_option maxHeartbeats 1000000 in
theorem bgoes_any {w : World} {B T n : Nat} {s : Hd} {L : List Nd} {r : Rc} {a : Option Nat} (h : Ln w B s T L) (hn : NdAt w n r a none) (hnB : n ≠ B) (hnL : ∀ x ∈ L, x.1 ≠ n) (now : Int)
    (h0 : -4611686018427387904 ≤ s.sent ∧ s.sent ≤ 4611686018427387904) (h1 : -4611686018427387904 ≤ r.times ∧ r.times ≤ 4611686018427387904) (h2 : -4611686018427387904 ≤ r.out ∧ r.out ≤ 4611686018427387904) :
    Calls Tryz.prog 70 #[.pointer (some ⟨B, 0, none⟩), .pointer (some ⟨n, 0, none⟩), .int .i64 now] w fun e w' => (∃ v, e = .returned v) ∧ Ln w' B (s.goes now) T (L ++ [(n, r.goes now (s.sent + 1))]) ∧ Kept (B :: n :: Nb (la none L)) w w' := by
  obtain ⟨c0, c1, c2, c3, c4, c5⟩ := h.bk.cs
  have g1 := h.bk.f 1; have g2 := h.bk.f 2
  obtain ⟨s0, s1⟩ := h0
  obtain ⟨L1, k1⟩ := hd_set h now
  have n1 := hn.keep k1 (by simpa using hnB)
  have HK1 := Lib.hid k1
  have HL1 := Lib.hid L1
  have HN1 := Lib.hid n1
  have hBn := hnB.symm
  clear h hn L1 k1 n1
  go_enter Tryz.func70, Tryz.ntmps70
  go_wp2_with fail
  generalize (w.setCell ⟨B, 1, none⟩ (.int .i64 (s.sent + 1))).setCell ⟨B, 2, none⟩ (.int .i64 now) = w1 at *
  have e1 : w1.drew.cell? ⟨B, 1, none⟩ = some (.int .i64 (s.sent + 1)) := HL1.out.bk.cs.2.1
  go_region_held3 (fun w' => w'.cell? ⟨B, 1, none⟩ = some (.int .i64 (s.sent + 1))) (first | exact e1 | exact e2 | go_keep)
    ((go_at_call 104; (with_reducible refine (goes_any (HN1.out.later (Below.refl _ _).drew) now (s.sent + 1) h1 h2).mono ?_); rintro x w2 ⟨⟨v, rfl⟩, n2, k2⟩; have L2 := (HL1.out.drew).kept k2 (by simpa using hBn) (fun x hx => by simpa using hnL x hx); have e2 := L2.bk.cs.2.1))
  go_wp2_with (go_at_call 52; (with_reducible refine (add_any L2 n2 hnB hnL).mono ?_); rintro x w3 ⟨⟨v, rfl⟩, L3, k3⟩)
  go_end0
  refine ⟨⟨_, rfl⟩, L3, ?_⟩
  have q1 : Kept (B :: n :: Nb (la none L)) w w1.drew := (HK1.out.drew).mono (by simp)
  exact (q1.trans k2 (by simp)).trans k3 (fun x hx => .inl hx)
theorem new_bad {una : Int} (h : una < 0 ∨ 4611686018427387904 < una) (w : World) : Calls Tryz.prog 26 #[.int .i64 una] w fun e w' => e = .returned (.tuple #[.pointer none, .int .i64 3]) ∧ w = w' := by
  rcases h with h | h
  · go_enter Tryz.func26, Tryz.ntmps26
    go_wp2
    go_ret2
    exact ⟨rfl, rfl⟩
  · have h' : ¬ una < 0 := by omega
    go_enter Tryz.func26, Tryz.ntmps26
    go_wp2
    go_ret2
    exact ⟨rfl, rfl⟩
/-- the nodes by their From -/
def kvN (N : List Nd) : List (Int × cv.Vt) := N.map fun x => (x.2.f, some ⟨x.1, 0, none⟩)
/-- records that rise, up to an offset -/
structure Up (N : List Nd) (nxt : Int) : Prop where
  ok : ∀ x ∈ N, x.2.f < x.2.t ∧ x.2.t ≤ nxt
  up : N.Pairwise (fun x y => x.2.t ≤ y.2.f)
theorem Up.tree {N : List Nd} {nxt : Int} (h : Up N nxt) : cv.T.Up (kvN N) := by
  unfold cv.T.Up kvN
  rw [List.pairwise_map]
  refine h.up.imp_of_mem (fun {x y} hx hy hxy => ?_)
  have := (h.ok x hx).1
  simp only
  omega
/-- a book: block B, its tree's header T; its records by their From (N), and by their order (L) -/
structure Bk (w : World) (B T : Nat) (s : Hd) (N L : List Nd) : Prop where
  ln : Ln w B s T L
  tr : ∃ t, cv.TrAt w T t ∧ t.toL = kvN N
  tb : T ≠ B
  tl : ∀ x ∈ L, x.1 ≠ T
  perm : L.Perm N
  up : Up N s.nxt
  n0 : 0 ≤ s.nxt ∧ s.nxt ≤ 4611686018427387904
/-- the blocks that a book has of its own (the tree's nodes aside, which are never written) -/
def fp (B T : Nat) (L : List Nd) : List Nat := B :: T :: L.map (·.1)
theorem Bk.later {w w' : World} {B T : Nat} {s : Hd} {N L : List Nd} (h : Bk w B T s N L) (hb : Below w.heap.size w w') : Bk w' B T s N L := by
  obtain ⟨t, h2, h3⟩ := h.tr
  exact ⟨h.ln.later hb, ⟨t, h2.later hb, h3⟩, h.tb, h.tl, h.perm, h.up, h.n0⟩
theorem Bk.lt {w : World} {B T : Nat} {s : Hd} {N L : List Nd} (h : Bk w B T s N L) : ∀ k ∈ fp B T L, k < w.heap.size := by
  intro k hk
  unfold fp at hk
  rcases List.mem_cons.1 hk with rfl | hk
  · exact h.ln.bk.lt
  · rcases List.mem_cons.1 hk with rfl | hk
    · obtain ⟨t, h2, _⟩ := h.tr; exact h2.lt
    · obtain ⟨x, hx, rfl⟩ := List.mem_map.1 hk; exact h.ln.lt hx
/-- none of these is a node of a tree -/
theorem Bk.notree {w : World} {B T : Nat} {s : Hd} {N L : List Nd} (h : Bk w B T s N L) : ∀ k ∈ fp B T L, ∀ cs, w.heap[k]? ≠ some (.cells cs 158 (0, 0)) := by
  intro k hk cs e
  unfold fp at hk
  rcases List.mem_cons.1 hk with rfl | hk
  · rw [show w.heap[k]? = _ from h.ln.bk] at e; simp at e
  · rcases List.mem_cons.1 hk with rfl | hk
    · obtain ⟨t, ⟨q, h2, _⟩, _⟩ := h.tr
      rw [h2] at e; simp at e
    · obtain ⟨x, hx, rfl⟩ := List.mem_map.1 hk
      obtain ⟨p, q, hn⟩ := seg_mem h.ln.sg hx
      rw [show w.heap[x.1]? = _ from hn] at e; simp at e
/-- a tree stays as it was where neither its header nor nodes of trees are written -/
theorem tr_kept {w w' : World} {T : Nat} {t : cv.T} {S : List Nat} (h : cv.TrAt w T t) (hk : Kept S w w') (hT : T ∉ S) (hS : ∀ k ∈ S, k < w.heap.size → ∀ cs, w.heap[k]? ≠ some (.cells cs 158 (0, 0))) : cv.TrAt w' T t := by
  obtain ⟨q, h1, h2⟩ := h
  exact ⟨q, hk.heap hT h1, h2.keepT (fun b cs hb => hk.block b (lt_of_block hb) (fun e => hS b e (lt_of_block hb) cs hb))⟩
set_option maxHeartbeats 1000000 in
theorem new_any {una : Int} (h : 0 ≤ una ∧ una ≤ 4611686018427387904) (w : World) : Calls Tryz.prog 26 #[.int .i64 una] w fun e w' => ∃ B T, e = .returned (.tuple #[.pointer (some ⟨B, 0, none⟩), .int .i64 0]) ∧ Bk w' B T ⟨una, 0, 0⟩ [] [] ∧ Below w.heap.size w w' ∧ w.heap.size ≤ B ∧ w.heap.size ≤ T := by
  obtain ⟨h0, h1⟩ := h
  have H01 := Lib.hid (And.intro h0 h1)
  go_enter Tryz.func26, Tryz.ntmps26
  go_wp2_with (go_at_call 49; (with_reducible refine (cv.new_any _).mono ?_); rintro e w1 ⟨rfl, ht, hb⟩; have HT := Lib.hid ht; have HB := Lib.hid hb; clear ht hb)
  go_ret2
  have hz := HB.out.size
  have hlt := HT.out.lt
  exact ⟨_, w.heap.size, rfl, ⟨⟨heap_alloc_new w1 _, trivial, by simp, by simp⟩, ⟨.nil, HT.out.later (al _ _), rfl⟩, by omega, by simp, List.Perm.refl _, ⟨by simp, List.Pairwise.nil⟩, H01.out⟩, HB.out.trans ((al w1 _).mono hz), hz, Nat.le_refl _⟩
end Go.Proofs.YtohpaoleomcimaaGreat.bk
/-!   Package book: the nodes of a line, gone through.
-/
namespace Go.Proofs.YtohpaoleomcimaaGreat.bk
open Go.RowKit Go.Shelf aid mem rng
attribute [local go_sem] Oper.semAt_some
set_option linter.unusedVariables false
set_option linter.unusedSimpArgs false

abbrev nE (x : Nd) : Array Value := #[.pointer (some ⟨x.1, 0, none⟩)]
/-- how many nodes there are from a pointer on -/
def remL (L : List Nd) : Value → Nat
  | .pointer (some a) => (L.dropWhile (fun x => decide (x.1 ≠ a.block))).length
  | _ => 0
theorem rem_at {L pre post : List Nd} {x : Nd} (hL : pre ++ x :: post = L) (hn : (L.map (·.1)).Nodup) : remL L (.pointer (some ⟨x.1, 0, none⟩)) = post.length + 1 := by
  subst hL
  obtain ⟨_, d2, _⟩ := nodup_mid (n := x.1) (r := x.2) hn
  show (List.dropWhile (fun y => decide (y.1 ≠ x.1)) (pre ++ x :: post)).length = _
  rw [List.dropWhile_append_of_pos (fun y hy => by simpa using d2 y hy)]
  simp
theorem rem_hd {L pre post : List Nd} {x : Nd} (hL : pre ++ x :: post = L) (hn : (L.map (·.1)).Nodup) : remL L (pA (hd none post)) = post.length := by
  cases post with
  | nil => rfl
  | cons y post => exact rem_at (pre := pre ++ [x]) (by simpa using hL) hn
/-- what stands while the nodes are gone through; E: the order of the last one -/
structure Cl (W : World) (C0 : Nat → Prop) (l : Nat) (J Jx : List Nd → (Nat → Prop) → World → Prop) (L : List Nd) (E : Int) : Prop where
  yd : ∀ pre x C W1, J pre C W1 → W.heap.size ≤ W1.heap.size → pre ++ [x] <+: L → Yd Tryz.prog l (nE x) W1 fun e W' =>
      ∃ C', Round C W1 C' W' ∧ ((e = .returned (.bool true) ∧ J (pre ++ [x]) C' W') ∨ (e = .returned (.bool false) ∧ Jx (pre ++ [x]) C' W'))
  rd : ∀ pre x post C W1, pre ++ x :: post = L → J pre C W1 → It C0 W C W1 → W1.cell? ⟨x.1, 3, none⟩ = some (.int .i64 x.2.order) ∧ W1.cell? ⟨x.1, 8, none⟩ = some (pA (hd none post)) ∧ x.2.order ≤ E
  nd : (L.map (·.1)).Nodup
set_option maxRecDepth 100000 in
set_option maxHeartbeats 4000000 in
theorem nodes_any {W : World} {C0 : Nat → Prop} {l B : Nat} {J Jx : List Nd → (Nat → Prop) → World → Prop} {L : List Nd} {E : Int} (hx : Cl W C0 l J Jx L E) (h4 : W.cell? ⟨B, 4, none⟩ = some (pA (hd none L))) (h5 : W.cell? ⟨B, 5, none⟩ = some (pA (la none L)))
    (hE : ∀ L' x, L = L' ++ [x] → W.cell? ⟨x.1, 3, none⟩ = some (.int .i64 E)) (hJ : J [] C0 W) (hI : It C0 W C0 W) :
    Calls Tryz.prog 100 #[.pointer (some ⟨B, 4, none⟩), .func (.yield l) #[] #[]] W fun e W' => (∃ v, e = .returned v) ∧ ∃ C', It C0 W C' W' ∧ (J L C' W' ∨ ∃ pre, Jx pre C' W') := by
  refine (callsIn_wide (n := 6)).1 ?_
  refine callsIn_of_wp Tryz.func100 rfl trivial ?_ rfl
  simp only [Tryz.ntmps100, List.size_toArray, List.length_cons, List.length_nil, Nat.reduceAdd, Nat.reduceSub, Array.replicate_succ, Array.replicate_zero, List.push_toArray, List.append_toArray, List.nil_append, List.cons_append]
  rcases List.eq_nil_or_concat L with rfl | ⟨L', y, rfl⟩
  · simp only [hd, la, pA, Option.map] at h4 h5
    have H0 := Lib.hid hJ
    have HI := Lib.hid hI
    clear hx hE hJ hI
    gi_wp2
    exact bodyPost_ret (v := .tuple #[]) (results_none rfl _ _ _) rfl ⟨⟨_, rfl⟩, C0, HI.out, .inl H0.out⟩
  · rw [List.concat_eq_append] at *
    have h3 := hE L' y rfl
    have hla : la none (L' ++ [y]) = some y.1 := by rw [la_append]; rfl
    rw [hla] at h5
    replace h5 : W.cell? ⟨B, 5, none⟩ = some (.pointer (some ⟨y.1, 0, none⟩)) := h5
    have H0 := Lib.hid hJ
    have HI0 := Lib.hid hI
    have HX := Lib.hid hx
    generalize L' ++ [y] = L at *
    clear hx hE hJ hI hla
    obtain ⟨F0, hF⟩ : ∃ F0, F0 = pA (hd none L) := ⟨_, rfl⟩
    rw [← hF] at h4
    have HF := Lib.hid hF
    clear hF
    gi_wp2
    gi_loopw [5] (fun u wr => ∃ (pre post : List Nd) (C : Nat → Prop), u = pA (hd none post) ∧ pre ++ post = L ∧ J pre C wr ∧ It C0 W C wr) (fun u _ => remL L u)
    case atStart => exact ⟨[], L, C0, HF.out, rfl, H0.out, HI0.out⟩
    case round =>
      obtain ⟨pre, post, C, rfl, hp, hj, hI⟩ := hrel
      clear h3 h4 h5
      cases post with
      | nil =>
        rw [List.append_nil] at hp
        subst hp
        have HJ := Lib.hid hj
        have HI := Lib.hid hI
        clear hj hI
        simp only [hd, pA, Option.map]
        gi_wp2
        all_goals exact bodyPost_end (v := .tuple #[]) (results_none rfl _ _ _) rfl ⟨⟨_, rfl⟩, C, HI.out, .inl HJ.out⟩
      | cons x post =>
        obtain ⟨r3, r8, rE⟩ := HX.out.rd pre x post C wr hp hj hI
        obtain ⟨V, hV⟩ : ∃ V, V = pA (hd none post) := ⟨_, rfl⟩
        rw [← hV] at r8
        have HV := Lib.hid hV
        clear hV
        have hp' : (pre ++ [x]) ++ post = L := by rw [← hp]; simp
        have hy := HX.out.yd pre x C wr hj hI.kept.size ⟨post, hp'⟩
        obtain ⟨fn, tmps, assign, body, hyy, hYY⟩ := hy.at 5
        have HM := Lib.hid (And.intro (rem_at hp HX.out.nd) (rem_hd hp HX.out.nd))
        have HP := Lib.hid hp'
        have HI := Lib.hid hI
        clear hy hj hI hp hp' H0 HI0
        simp only [hd, pA, Option.map]
        gi_wp2
        refine hYY.mono ?_
        clear hyy hYY r3 r8
        rintro e w3 ⟨C2, hr2, ⟨rfl, hJ2⟩ | ⟨rfl, hJ2⟩⟩
        · have hI2 := HI.out.round hr2
          clear hr2
          gi_wp2
          go_roundw
          case rel => exact ⟨pre ++ [x], post, C2, HV.out, HP.out, hJ2, hI2⟩
          case measure => have := HM.out; rw [← HV.out] at this; simp at this ⊢; omega
        · have hI2 := HI.out.round hr2
          gi_wp2
          exact bodyPost_ret (v := .tuple #[]) (results_none rfl _ _ _) rfl ⟨⟨_, rfl⟩, C2, hI2, .inr ⟨_, hJ2⟩⟩
end Go.Proofs.YtohpaoleomcimaaGreat.bk
