/-
  Package avl: what is asked of a tree; the fixed calls of layer 8's law.
-/
import Derived.Test.YthganmlechikiabAvlT
namespace Go.Proofs.Ythganmlechikiab.av
open Go.RowKit aid mem
attribute [local go_sem ↓] Go.wp_at_zero Go.wp_at_succ
set_option linter.unusedVariables false

/-- three results -/
def tupO : Option (Int × Int) → Value
  | none => .tuple #[.int .i64 0, .int .i64 0, .bool false]
  | some x => .tuple #[.int .i64 x.1, .int .i64 x.2, .bool true]
set_option maxHeartbeats 1000000 in
theorem told_node {w : World} {q : Option Addr} {o : Option (Int × Int)} (h : NodeOf w q o) :
    Calls Try.prog 36 #[.pointer q] w fun e w' => e = .returned (tupO o) ∧ Below w.heap.size w w' := by
  cases o with
  | none =>
    obtain rfl : q = none := h
    go_enter Try.func36, Try.ntmps36
    go_wp2
    refine bodyPost_ret (v := .tuple #[.int .i64 0, .int .i64 0, .bool false]) (by simp [results, Try.results36, go_sem]) rfl ⟨rfl, Below.refl _ _⟩
  | some x =>
    obtain ⟨b, rfl, c0, c1⟩ := h
    go_enter Try.func36, Try.ntmps36
    go_wp2
    go_quiet (fail)
    go_wp2
    refine bodyPost_ret (v := .tuple #[.int .i64 x.1, .int .i64 x.2, .bool true]) (by simp [results, Try.results36, go_sem]) rfl ⟨rfl, below_drewN w nq⟩

/-! GEN -/
set_option maxHeartbeats 1000000 in
theorem tfloor_any {w : World} {p : Option Addr} {t : T} (h : TrO w p t) (key : Int) (hu : T.Up t.toL) : Calls Try.prog 20 #[.pointer p, .int .i64 key] w fun e w' => e = .returned (tupO (flL t.toL key)) ∧ Below w.heap.size w w' := by
  have H := Lib.hid h
  have HU := Lib.hid hu
  clear hu
  clear h
  generalize hO : flL t.toL key = o
  have HO := Lib.hid hO
  clear hO
  cases o with
  | none =>
    go_enter Try.func20, Try.ntmps20
    go_wp2_with (first
      | (go_at_call 30; (with_reducible refine (top_any H.out).mono ?_); rintro e w' ⟨q, rfl, hq, rfl⟩; have HF := Lib.hid (floor_any hq key HU.out); rw [HO.out] at HF; clear hq)
      | (go_at_call 35; (with_reducible refine HF.out.mono ?_); rintro e w2 ⟨q2, rfl, hq2, hb2⟩; have HQ := Lib.hid hq2; clear hq2)
      | (go_at_call 36; (with_reducible refine (told_node HQ.out).mono ?_); rintro e w3 ⟨rfl, hb3⟩; unfold tupO))
    refine bodyPost_ret (v := .tuple #[.int .i64 0, .int .i64 0, .bool false]) (by simp [results, Try.results20, go_sem]) rfl ⟨rfl, hb2.trans (hb3.mono hb2.size)⟩
  | some x =>
    go_enter Try.func20, Try.ntmps20
    go_wp2_with (first
      | (go_at_call 30; (with_reducible refine (top_any H.out).mono ?_); rintro e w' ⟨q, rfl, hq, rfl⟩; have HF := Lib.hid (floor_any hq key HU.out); rw [HO.out] at HF; clear hq)
      | (go_at_call 35; (with_reducible refine HF.out.mono ?_); rintro e w2 ⟨q2, rfl, hq2, hb2⟩; have HQ := Lib.hid hq2; clear hq2)
      | (go_at_call 36; (with_reducible refine (told_node HQ.out).mono ?_); rintro e w3 ⟨rfl, hb3⟩; unfold tupO))
    refine bodyPost_ret (v := .tuple #[.int .i64 x.1, .int .i64 x.2, .bool true]) (by simp [results, Try.results20, go_sem]) rfl ⟨rfl, hb2.trans (hb3.mono hb2.size)⟩

set_option maxHeartbeats 1000000 in
theorem tceil_any {w : World} {p : Option Addr} {t : T} (h : TrO w p t) (key : Int) (hu : T.Up t.toL) : Calls Try.prog 21 #[.pointer p, .int .i64 key] w fun e w' => e = .returned (tupO (ceL t.toL key)) ∧ Below w.heap.size w w' := by
  have H := Lib.hid h
  have HU := Lib.hid hu
  clear hu
  clear h
  generalize hO : ceL t.toL key = o
  have HO := Lib.hid hO
  clear hO
  cases o with
  | none =>
    go_enter Try.func21, Try.ntmps21
    go_wp2_with (first
      | (go_at_call 30; (with_reducible refine (top_any H.out).mono ?_); rintro e w' ⟨q, rfl, hq, rfl⟩; have HF := Lib.hid (ceil_any hq key HU.out); rw [HO.out] at HF; clear hq)
      | (go_at_call 37; (with_reducible refine HF.out.mono ?_); rintro e w2 ⟨q2, rfl, hq2, hb2⟩; have HQ := Lib.hid hq2; clear hq2)
      | (go_at_call 36; (with_reducible refine (told_node HQ.out).mono ?_); rintro e w3 ⟨rfl, hb3⟩; unfold tupO))
    refine bodyPost_ret (v := .tuple #[.int .i64 0, .int .i64 0, .bool false]) (by simp [results, Try.results21, go_sem]) rfl ⟨rfl, hb2.trans (hb3.mono hb2.size)⟩
  | some x =>
    go_enter Try.func21, Try.ntmps21
    go_wp2_with (first
      | (go_at_call 30; (with_reducible refine (top_any H.out).mono ?_); rintro e w' ⟨q, rfl, hq, rfl⟩; have HF := Lib.hid (ceil_any hq key HU.out); rw [HO.out] at HF; clear hq)
      | (go_at_call 37; (with_reducible refine HF.out.mono ?_); rintro e w2 ⟨q2, rfl, hq2, hb2⟩; have HQ := Lib.hid hq2; clear hq2)
      | (go_at_call 36; (with_reducible refine (told_node HQ.out).mono ?_); rintro e w3 ⟨rfl, hb3⟩; unfold tupO))
    refine bodyPost_ret (v := .tuple #[.int .i64 x.1, .int .i64 x.2, .bool true]) (by simp [results, Try.results21, go_sem]) rfl ⟨rfl, hb2.trans (hb3.mono hb2.size)⟩

set_option maxHeartbeats 1000000 in
theorem tat_any {w : World} {p : Option Addr} {t : T} (h : TrO w p t) (i : Int) (hi : -9223372036854775808 ≤ i ∧ i ≤ 9223372036854775807) (hs : t.size ≤ 1000000) : Calls Try.prog 22 #[.pointer p, .int .i64 i] w fun e w' => e = .returned (tupO (atL t.toL i)) ∧ Below w.heap.size w w' := by
  have H := Lib.hid h
  clear h
  generalize hO : atL t.toL i = o
  have HO := Lib.hid hO
  clear hO
  cases o with
  | none =>
    go_enter Try.func22, Try.ntmps22
    go_wp2_with (first
      | (go_at_call 30; (with_reducible refine (top_any H.out).mono ?_); rintro e w' ⟨q, rfl, hq, rfl⟩; have HF := Lib.hid (at_any hq i hi hs); rw [HO.out] at HF; clear hq)
      | (go_at_call 38; (with_reducible refine HF.out.mono ?_); rintro e w2 ⟨q2, rfl, hq2, rfl⟩; have HQ := Lib.hid hq2; clear hq2)
      | (go_at_call 36; (with_reducible refine (told_node HQ.out).mono ?_); rintro e w3 ⟨rfl, hb3⟩; unfold tupO))
    refine bodyPost_ret (v := .tuple #[.int .i64 0, .int .i64 0, .bool false]) (by simp [results, Try.results22, go_sem]) rfl ⟨rfl, hb3⟩
  | some x =>
    go_enter Try.func22, Try.ntmps22
    go_wp2_with (first
      | (go_at_call 30; (with_reducible refine (top_any H.out).mono ?_); rintro e w' ⟨q, rfl, hq, rfl⟩; have HF := Lib.hid (at_any hq i hi hs); rw [HO.out] at HF; clear hq)
      | (go_at_call 38; (with_reducible refine HF.out.mono ?_); rintro e w2 ⟨q2, rfl, hq2, rfl⟩; have HQ := Lib.hid hq2; clear hq2)
      | (go_at_call 36; (with_reducible refine (told_node HQ.out).mono ?_); rintro e w3 ⟨rfl, hb3⟩; unfold tupO))
    refine bodyPost_ret (v := .tuple #[.int .i64 x.1, .int .i64 x.2, .bool true]) (by simp [results, Try.results22, go_sem]) rfl ⟨rfl, hb3⟩

/-! NEG -/
theorem trank_any {w : World} {p : Option Addr} {t : T} (h : TrO w p t) (key : Int) (hu : T.Up t.toL) (hs : t.size ≤ 1000000) : Calls Try.prog 24 #[.pointer p, .int .i64 key] w fun e w' => e = .returned (.int .i64 (rkL t.toL key : Int)) ∧ w = w' := by
  have H := Lib.hid h
  have HU := Lib.hid hu
  clear h hu
  go_enter Try.func24, Try.ntmps24
  go_wp2_with (first
    | (go_at_call 30; (with_reducible refine (top_any H.out).mono ?_); rintro e w' ⟨q, rfl, hq, rfl⟩)
    | (go_at_call 39; (with_reducible refine (rank_any hq key HU.out hs).mono ?_); rintro e w2 ⟨rfl, rfl⟩))
  go_ret
  exact ⟨rfl, rfl⟩

/-- a key's value -/
def getL (l : Ps) (key : Int) : Option Int := (l.find? (fun x => x.1 == key)).map (·.2)
theorem find_none {l : Ps} {k : Int} (h : ∀ x ∈ l, x.1 ≠ k) : l.find? (fun x => x.1 == k) = none := List.find?_eq_none.2 (fun x hx => by simpa using h x hx)
theorem get_fl {l : Ps} {key : Int} (h : T.Up l) : getL l key = match flL l key with | none => none | some x => if x.1 = key then some x.2 else none := by
  unfold getL
  induction l with
  | nil => rfl
  | cons y q ih =>
    obtain ⟨k, v⟩ := y
    have h2 := List.pairwise_cons.1 h
    rw [List.find?_cons]
    by_cases hk : k ≤ key
    · have e := fl_lo (l := []) (r := q) (v := v) hk
      rw [List.nil_append] at e
      rw [e]
      by_cases he : k = key
      · subst he
        simp only [beq_self_eq_true]
        have : flL q k = none := by
          unfold flL
          rw [List.filter_eq_nil_iff.2 (fun x hx => by have := h2.1 x hx; simp; omega)]
          rfl
        rw [this]
        simp
      · rw [show ((k, v).1 == key) = false from by simpa using he]
        simp only
        rw [ih h2.2]
        cases flL q key <;> simp [he]
    · have e := fl_hi (l := []) (r := q) (v := v) (k := k) (key := key) h (by omega)
      rw [List.nil_append] at e
      rw [e]
      rw [show ((k, v).1 == key) = false from by simp; omega]
      simp only
      rw [find_none (fun x hx => by have := h2.1 x hx; simp at this; omega)]
      rfl
/-- two results -/
def tup2 : Option Int → Value
  | none => .tuple #[.int .i64 0, .bool false]
  | some x => .tuple #[.int .i64 x, .bool true]
set_option maxHeartbeats 1000000 in
theorem get_any {w : World} {p : Option Addr} {t : T} (h : TrO w p t) (key : Int) (hu : T.Up t.toL) : Calls Try.prog 11 #[.pointer p, .int .i64 key] w fun e w' => e = .returned (tup2 (getL t.toL key)) ∧ Below w.heap.size w w' := by
  have HF := Lib.hid (tfloor_any h key hu)
  have HG := Lib.hid (get_fl (key := key) hu)
  clear h hu
  generalize flL t.toL key = o at *
  generalize getL t.toL key = g at *
  cases o with
  | none =>
    obtain rfl : g = none := HG.out
    clear HG
    go_enter Try.func11, Try.ntmps11
    go_wp2_with (go_at_call 20; (with_reducible refine HF.out.mono ?_); rintro e w2 ⟨rfl, hb2⟩; unfold tupO)
    refine bodyPost_ret (v := .tuple #[.int .i64 0, .bool false]) (by simp [results, Try.results11, go_sem]) rfl ⟨rfl, hb2⟩
  | some x =>
    obtain ⟨k, v⟩ := x
    by_cases hk : k = key
    · subst hk
      obtain rfl : g = some v := by rw [HG.out]; simp
      clear HG
      go_enter Try.func11, Try.ntmps11
      go_wp2_with (go_at_call 20; (with_reducible refine HF.out.mono ?_); rintro e w2 ⟨rfl, hb2⟩; unfold tupO)
      refine bodyPost_ret (v := .tuple #[.int .i64 v, .bool true]) (by simp [results, Try.results11, go_sem]) rfl ⟨rfl, hb2⟩
    · obtain rfl : g = none := by rw [HG.out]; simp [hk]
      clear HG
      have hd : (k == key) = false := by simpa using hk
      go_enter Try.func11, Try.ntmps11
      go_wp2_with (go_at_call 20; (with_reducible refine HF.out.mono ?_); rintro e w2 ⟨rfl, hb2⟩; unfold tupO)
      refine bodyPost_ret (v := .tuple #[.int .i64 0, .bool false]) (by simp [results, Try.results11, go_sem]) rfl ⟨rfl, hb2⟩

/-! ### A tree of one's own -/
structure TS (w0 w : World) (b : Nat) (t : T) : Prop where
  tree : TrAt w b t
  below : Below w0.heap.size w0 w
  le : w0.heap.size ≤ b
theorem TS.later {w0 w w' : World} {b : Nat} {t : T} (h : TS w0 w b t) (hb : Below w.heap.size w w') : TS w0 w' b t := ⟨h.tree.later hb, h.below.trans (hb.mono h.below.size), h.le⟩
theorem new_ts {w0 w : World} (hB : Below w0.heap.size w0 w) : Calls Try.prog 9 #[] w fun e w' => ∃ b, e = .returned (.pointer (some ⟨b, 0, none⟩)) ∧ TS w0 w' b .nil ∧ b = w.heap.size ∧ Below w.heap.size w w' :=
  (new_any w).mono fun e w' ⟨h1, h2, h3⟩ => ⟨_, h1, ⟨h2, hB.trans (h3.mono hB.size), hB.size⟩, rfl, h3⟩
theorem put_ts {w0 w : World} {b : Nat} {t : T} (k v : Int) (h : TS w0 w b t) (hs : t.size ≤ 900000) :
    Calls Try.prog 16 #[.pointer (some ⟨b, 0, none⟩), .int .i64 k, .int .i64 v] w fun e w' => e = .returned (.bool (decide (t.size < (T.ins k v t).size))) ∧ TS w0 w' b (T.ins k v t) ∧ Kept [b] w w' :=
  (put_any k v h.tree hs).mono fun e w' ⟨h1, h2, h3⟩ => ⟨h1, ⟨h2, h.below.trans (h3.below (by simpa using h.le) h.below.size), h.le⟩, h3⟩
theorem delete_ts {w0 w : World} {b : Nat} {t : T} (k : Int) (h : TS w0 w b t) (hs : t.size ≤ 900000) :
    Calls Try.prog 26 #[.pointer (some ⟨b, 0, none⟩), .int .i64 k] w fun e w' => e = .returned (.bool (decide ((T.del k t).size < t.size))) ∧ TS w0 w' b (T.del k t) ∧ Kept [b] w w' :=
  (delete_any k h.tree hs).mono fun e w' ⟨h1, h2, h3⟩ => ⟨h1, ⟨h2, h.below.trans (h3.below (by simpa using h.le) h.below.size), h.le⟩, h3⟩

theorem ins_up {t : T} (k v : Int) (h : T.Up t.toL) : T.Up (T.ins k v t).toL := by rw [T.ins_toL k v t h]; exact T.putL_up h
theorem del_up {t : T} (k : Int) (h : T.Up t.toL) : T.Up (T.del k t).toL := by rw [T.del_toL k t h]; exact T.delL_up h
def K1 : T := T.ins 5 50 .nil
def K2 : T := T.ins 3 30 K1
def K3 : T := T.ins 9 90 K2
theorem k1_size : K1.size = 1 := by decide
theorem k2_size : K2.size = 2 := by decide
theorem k3_size : K3.size = 3 := by decide
theorem k3_ht : K3.ht = 2 := by decide
theorem k3_up : T.Up K3.toL := ins_up _ _ (ins_up _ _ (ins_up _ _ List.Pairwise.nil))
theorem k3_fl : flL K3.toL 4 = some (3, 30) := by decide
theorem k3_rk : rkL K3.toL 9 = 2 := by decide

set_option maxRecDepth 100000 in
set_option maxHeartbeats 2000000 in
theorem known_any (w : World) : Calls Try.prog 8 #[] w fun e w' => e = .returned (.bool true) ∧ Below w.heap.size w w' := by
  have P1 := Lib.hid (fun (w' : World) (b : Nat) (h : TS w w' b .nil) => put_ts 5 50 h (by simp [T.size]))
  have P2 := Lib.hid (fun (w' : World) (b : Nat) (h : TS w w' b K1) => put_ts 3 30 h (by rw [k1_size]; omega))
  have P3 := Lib.hid (fun (w' : World) (b : Nat) (h : TS w w' b K2) => put_ts 9 90 h (by rw [k2_size]; omega))
  have HF := Lib.hid (fun (w' : World) (b : Nat) (h : TS w w' b K3) => by have := tfloor_any h.tree.o 4 k3_up; rwa [k3_fl] at this)
  have HR := Lib.hid (fun (w' : World) (b : Nat) (h : TS w w' b K3) => by have := trank_any h.tree.o 9 k3_up (by rw [k3_size]; omega); rwa [k3_rk] at this)
  have HH := Lib.hid (fun (w' : World) (b : Nat) (h : TS w w' b K3) => by have := height_any h.tree.o; rwa [k3_ht] at this)
  have HL := Lib.hid (fun (w' : World) (b : Nat) (h : TS w w' b K3) => by have := tlen_any h.tree.o; rwa [k3_size] at this)
  go_enter Try.func8, Try.ntmps8
  go_wp2_with (first
    | (go_at_call 9; (with_reducible refine (new_ts (Below.refl w.heap.size w)).mono ?_); rintro e w1 ⟨b, rfl, S1, q1, q2⟩; clear q1 q2)
    | (go_at_call 16; (with_reducible refine (P1.out _ _ S1).mono ?_); rintro e w2 ⟨rfl, S2, q1⟩; clear S1 q1; change TS w w2 b K1 at S2)
    | (go_at_call 16; (with_reducible refine (P2.out _ _ S2).mono ?_); rintro e w3 ⟨rfl, S3, q1⟩; clear S2 q1; change TS w w3 b K2 at S3)
    | (go_at_call 16; (with_reducible refine (P3.out _ _ S3).mono ?_); rintro e w4 ⟨rfl, S4, q1⟩; clear S3 q1; change TS w w4 b K3 at S4)
    | (go_at_call 20; (with_reducible refine (HF.out _ _ S4).mono ?_); rintro e w5 ⟨rfl, hb5⟩; have S5 := S4.later hb5; clear S4; unfold tupO)
    | (go_at_call 24; (with_reducible refine (HR.out _ _ S5).mono ?_); rintro e w6 ⟨rfl, rfl⟩)
    | (go_at_call 27; (with_reducible refine (HH.out _ _ S5).mono ?_); rintro e w6 ⟨rfl, rfl⟩)
    | (go_at_call 12; (with_reducible refine (HL.out _ _ S5).mono ?_); rintro e w6 ⟨rfl, rfl⟩))
  go_ret
  exact ⟨rfl, S5.below⟩
end Go.Proofs.Ythganmlechikiab.av
