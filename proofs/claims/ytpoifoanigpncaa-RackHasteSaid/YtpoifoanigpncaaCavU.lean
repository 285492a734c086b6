/-
  Package avl: what is asked of a tree; the fixed calls of layer 8's law.
-/
import Derived.Test.YtpoifoanigpncaaCavT
namespace Go.Proofs.Ytpoifoanigpncaa.cv
open Go.RowKit aid mem
attribute [local go_sem ↓] Go.wp_at_zero Go.wp_at_succ
set_option linter.unusedVariables false

/-- three results -/
def tupO : Option (Int × Vt) → Value
  | none => .tuple #[.int .i64 0, .pointer none, .bool false]
  | some x => .tuple #[.int .i64 x.1, .pointer x.2, .bool true]
set_option maxHeartbeats 1000000 in
theorem told_node {w : World} {q : Option Addr} {o : Option (Int × Vt)} (h : NodeOf w q o) :
    Calls Try.prog 80 #[.pointer q] w fun e w' => e = .returned (tupO o) ∧ Below w.heap.size w w' := by
  cases o with
  | none =>
    obtain rfl : q = none := h
    go_enter Try.func80, Try.ntmps80
    go_wp2
    refine bodyPost_ret (v := .tuple #[.int .i64 0, .pointer none, .bool false]) (by simp [results, Try.results80, go_sem]) rfl ⟨rfl, Below.refl _ _⟩
  | some x =>
    obtain ⟨b, rfl, c0, c1⟩ := h
    go_enter Try.func80, Try.ntmps80
    go_wp2
    go_quiet (fail)
    go_wp2
    refine bodyPost_ret (v := .tuple #[.int .i64 x.1, .pointer x.2, .bool true]) (by simp [results, Try.results80, go_sem]) rfl ⟨rfl, below_drewN w nq⟩

/-! GEN -/
set_option maxHeartbeats 1000000 in
theorem tfloor_any {w : World} {p : Option Addr} {t : T} (h : TrO w p t) (key : Int) (hu : T.Up t.toL) : Calls Try.prog 68 #[.pointer p, .int .i64 key] w fun e w' => e = .returned (tupO (flL t.toL key)) ∧ Below w.heap.size w w' := by
  have H := Lib.hid h
  have HU := Lib.hid hu
  clear hu
  clear h
  generalize hO : flL t.toL key = o
  have HO := Lib.hid hO
  clear hO
  cases o with
  | none =>
    go_enter Try.func68, Try.ntmps68
    go_wp2_with (first
      | (go_at_call 74; (with_reducible refine (top_any H.out).mono ?_); rintro e w' ⟨q, rfl, hq, rfl⟩; have HF := Lib.hid (floor_any hq key HU.out); rw [HO.out] at HF; clear hq)
      | (go_at_call 79; (with_reducible refine HF.out.mono ?_); rintro e w2 ⟨q2, rfl, hq2, hb2⟩; have HQ := Lib.hid hq2; clear hq2)
      | (go_at_call 80; (with_reducible refine (told_node HQ.out).mono ?_); rintro e w3 ⟨rfl, hb3⟩; unfold tupO))
    refine bodyPost_ret (v := .tuple #[.int .i64 0, .pointer none, .bool false]) (by simp [results, Try.results68, go_sem]) rfl ⟨rfl, hb2.trans (hb3.mono hb2.size)⟩
  | some x =>
    go_enter Try.func68, Try.ntmps68
    go_wp2_with (first
      | (go_at_call 74; (with_reducible refine (top_any H.out).mono ?_); rintro e w' ⟨q, rfl, hq, rfl⟩; have HF := Lib.hid (floor_any hq key HU.out); rw [HO.out] at HF; clear hq)
      | (go_at_call 79; (with_reducible refine HF.out.mono ?_); rintro e w2 ⟨q2, rfl, hq2, hb2⟩; have HQ := Lib.hid hq2; clear hq2)
      | (go_at_call 80; (with_reducible refine (told_node HQ.out).mono ?_); rintro e w3 ⟨rfl, hb3⟩; unfold tupO))
    refine bodyPost_ret (v := .tuple #[.int .i64 x.1, .pointer x.2, .bool true]) (by simp [results, Try.results68, go_sem]) rfl ⟨rfl, hb2.trans (hb3.mono hb2.size)⟩

/-! NEG -/
/-- a key's value -/
def getL (l : Ps) (key : Int) : Option Vt := (l.find? (fun x => x.1 == key)).map (·.2)
theorem find_none {l : Ps} {k : Int} (h : ∀ x ∈ l, x.1 ≠ k) : l.find? (fun x => x.1 == k) = none := List.find?_eq_none.2 (fun x hx => by simpa using h x hx)
theorem get_fl {l : Ps} {key : Int} (h : T.Up l) : getL l key = match flL l key with | none => none | some x => if x.1 = key then some x.2 else none := by
  unfold getL
  induction l with
  | nil => rfl
  | cons y q ih =>
    obtain ⟨k, v⟩ := y
    have h2 := List.pairwise_cons.1 h
    rw [List.find?_cons]
    by_cases hk : k ≤ key
    · have e := fl_lo (l := []) (r := q) (v := v) hk
      rw [List.nil_append] at e
      rw [e]
      by_cases he : k = key
      · subst he
        simp only [beq_self_eq_true]
        have : flL q k = none := by
          unfold flL
          rw [List.filter_eq_nil_iff.2 (fun x hx => by have := h2.1 x hx; simp; omega)]
          rfl
        rw [this]
        simp
      · rw [show ((k, v).1 == key) = false from by simpa using he]
        simp only
        rw [ih h2.2]
        cases flL q key <;> simp [he]
    · have e := fl_hi (l := []) (r := q) (v := v) (k := k) (key := key) h (by omega)
      rw [List.nil_append] at e
      rw [e]
      rw [show ((k, v).1 == key) = false from by simp; omega]
      simp only
      rw [find_none (fun x hx => by have := h2.1 x hx; simp at this; omega)]
      rfl
/-- two results -/
def tup2 : Option Vt → Value
  | none => .tuple #[.pointer none, .bool false]
  | some x => .tuple #[.pointer x, .bool true]
set_option maxHeartbeats 1000000 in
theorem get_any {w : World} {p : Option Addr} {t : T} (h : TrO w p t) (key : Int) (hu : T.Up t.toL) : Calls Try.prog 55 #[.pointer p, .int .i64 key] w fun e w' => e = .returned (tup2 (getL t.toL key)) ∧ Below w.heap.size w w' := by
  have HF := Lib.hid (tfloor_any h key hu)
  have HG := Lib.hid (get_fl (key := key) hu)
  clear h hu
  generalize flL t.toL key = o at *
  generalize getL t.toL key = g at *
  cases o with
  | none =>
    obtain rfl : g = none := HG.out
    clear HG
    go_enter Try.func55, Try.ntmps55
    go_wp2_with (go_at_call 68; (with_reducible refine HF.out.mono ?_); rintro e w2 ⟨rfl, hb2⟩; unfold tupO)
    refine bodyPost_ret (v := .tuple #[.pointer none, .bool false]) (by simp [results, Try.results55, go_sem]) rfl ⟨rfl, hb2⟩
  | some x =>
    obtain ⟨k, v⟩ := x
    by_cases hk : k = key
    · subst hk
      obtain rfl : g = some v := by rw [HG.out]; simp
      clear HG
      go_enter Try.func55, Try.ntmps55
      go_wp2_with (go_at_call 68; (with_reducible refine HF.out.mono ?_); rintro e w2 ⟨rfl, hb2⟩; unfold tupO)
      refine bodyPost_ret (v := .tuple #[.pointer v, .bool true]) (by simp [results, Try.results55, go_sem]) rfl ⟨rfl, hb2⟩
    · obtain rfl : g = none := by rw [HG.out]; simp [hk]
      clear HG
      have hd : (k == key) = false := by simpa using hk
      go_enter Try.func55, Try.ntmps55
      go_wp2_with (go_at_call 68; (with_reducible refine HF.out.mono ?_); rintro e w2 ⟨rfl, hb2⟩; unfold tupO)
      refine bodyPost_ret (v := .tuple #[.pointer none, .bool false]) (by simp [results, Try.results55, go_sem]) rfl ⟨rfl, hb2⟩

theorem ins_up {t : T} (k : Int) (v : Vt) (h : T.Up t.toL) : T.Up (T.ins k v t).toL := by rw [T.ins_toL k v t h]; exact T.putL_up h
theorem del_up {t : T} (k : Int) (h : T.Up t.toL) : T.Up (T.del k t).toL := by rw [T.del_toL k t h]; exact T.delL_up h
end Go.Proofs.Ytpoifoanigpncaa.cv
