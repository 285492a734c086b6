/-
  Package avl: putting, the node at a place, deleting.
-/
import Derived.Test.YtdoedcfmhdnbgaaBavB
import Derived.Test.YtdoedcfmhdnbgaaBavY
namespace Go.Proofs.Ytdoedcfmhdnbgaa.bv
open Go.RowKit aid mem
attribute [local go_sem ↓] Go.wp_at_zero Go.wp_at_succ
set_option linter.unusedVariables false

/-- a node, and a span in its box -/
structure NdV (w : World) (b : Nat) (l : T) (k : Int) (v : Vt) (r : T) (pl pr : Option Addr) (x : Nat) (u : Vt) : Prop where
  nd : NdB w b l k v r pl pr
  x0 : w.cell? ⟨x, 0, none⟩ = some (.int .i64 u.1)
  x1 : w.cell? ⟨x, 1, none⟩ = some (.int .i64 u.2)
section
variable {w w' : World} {b x : Nat} {l r : T} {k : Int} {v u : Vt} {pl pr : Option Addr}
theorem NdV.later (h : NdV w b l k v r pl pr x u) (hb : Below w.heap.size w w') : NdV w' b l k v r pl pr x u := ⟨h.nd.later hb, ck hb h.x0, ck hb h.x1⟩
theorem NdV.cs (h : NdV w b l k v r pl pr x u) : Cs w b k v pl pr (l.size + 1 + r.size) (1 + max l.ht r.ht) := h.nd.cs
theorem NdV.left (h : NdV w b l k v r pl pr x u) : NdAt w pl l := h.nd.left
theorem NdV.right (h : NdV w b l k v r pl pr x u) : NdAt w pr r := h.nd.right
theorem box_sp (w : World) (v : Vt) : (w.alloc (.cells #[.int .i64 v.1, .int .i64 v.2] 24)).cell? ⟨w.heap.size, 0, none⟩ = some (.int .i64 v.1) ∧ (w.alloc (.cells #[.int .i64 v.1, .int .i64 v.2] 24)).cell? ⟨w.heap.size, 1, none⟩ = some (.int .i64 v.2) := by
  have x1 := heap_alloc_new w (.cells #[.int .i64 v.1, .int .i64 v.2] 24)
  exact ⟨(cell_of_row _ w.heap.size 0 _ _ (0, 0) x1).trans rfl, (cell_of_row _ w.heap.size 1 _ _ (0, 0) x1).trans rfl⟩
end
set_option maxRecDepth 100000 in
set_option maxHeartbeats 4000000 in
theorem with_any (k : Int) (v : Vt) : ∀ (t : T) {p : Option Addr} {w : World}, NdAt w p t → t.size ≤ 900000 →
    Calls Try.prog 79 #[.pointer p, .int .i64 k, .agg #[.int .i64 v.1, .int .i64 v.2]] w (RetT (T.ins k v t) w) := by
  intro t
  induction t with
  | nil =>
    intro p w h hs
    obtain rfl : p = none := h
    have bb := bal' (w := w) (.cells #[.int .i64 v.1, .int .i64 v.2] 24)
    have bx := box_sp w v
    have x0 := bx.1; have x1 := bx.2
    have HB := Lib.hid bb
    clear bb bx
    have HJ := Lib.hid (join_any (l := .nil) (r := .nil) (pl := none) (pr := none) k v (w := w.alloc (.cells #[.int .i64 v.1, .int .i64 v.2] 24)) rfl rfl (by simp [T.size]))
    go_enter Try.func79, Try.ntmps79
    go_wp2_with (go_at_call 86; (with_reducible refine HJ.out.mono ?_); rintro e w' ⟨p, rfl, hp, hb⟩)
    go_ret
    exact ⟨p, rfl, hp, HB.out.trans (hb.mono HB.out.size)⟩
  | node l k' v' r ihl ihr =>
    intro p w h hs
    obtain ⟨b, pl, pr, rfl, hb, hl, hr⟩ := h
    have bb := bal' (w := w) (.cells #[.int .i64 v.1, .int .i64 v.2] 24)
    have bx := box_sp w v
    generalize hWd : w.alloc (.cells #[.int .i64 v.1, .int .i64 v.2] 24) = w0 at *
    have N : NdV w0 b l k' v' r pl pr w.heap.size v := ⟨(NdB.later ⟨hb, hl, hr⟩ bb), bx.1, bx.2⟩
    obtain ⟨d01, d2, d3⟩ := N.nd.c
    have x0 := bx.1; have x1 := bx.2
    have d0 := d01.1
    have ND := N.later (Below.refl w0.heap.size w0).drew
    have HB := Lib.hid bb.drew
    simp only [T.size] at hs
    have z1 := T.ins_size k v l
    have z2 := T.ins_size k v r
    clear hb N bb bx
    by_cases h1 : k < k'
    · have HT : Hid (T.ins k v (.node l k' v' r) = T.bal (T.ins k v l) k' v' r) := Lib.hid (by simp only [T.ins, if_pos h1])
      have hs1 : l.size ≤ 900000 := by omega
      have hs2 : (T.ins k v l).size + r.size ≤ 1000000 := by omega
      have HI := Lib.hid (fun (w' : World) (h : NdAt w' pl l) => ihl h hs1)
      generalize T.ins k v (.node l k' v' r) = t at *
      generalize T.ins k v l = q at *
      clear ihl ihr z1 z2 hl hr d01
      subst hWd
      go_enter Try.func79, Try.ntmps79
      go_wp2
      go_region_held3 (fun w' => w'.cell? ⟨b, 3, none⟩ = some (.pointer pl) ∧ w'.cell? ⟨b, 4, none⟩ = some (.pointer pr) ∧ w'.cell? ⟨w.heap.size, 0, none⟩ = some (.int .i64 v.1) ∧ w'.cell? ⟨w.heap.size, 1, none⟩ = some (.int .i64 v.2)) (with_reducible first | exact ⟨ND.cs.c2, ND.cs.c3, ND.x0, ND.x1⟩ | exact ⟨NA.cs.c2, NA.cs.c3, NA.x0, NA.x1⟩ | exact ⟨NC.cs.c2, NC.cs.c3, NC.x0, NC.x1⟩ | go_keep) (first
        | (go_at_call 79; (with_reducible refine (HI.out _ ND.left).mono ?_); rintro e w2 ⟨p1, rfl, hp1, hb⟩; have NA := ND.later hb; have BA := HB.out.trans (hb.mono HB.out.size); clear ND hb)
        | (go_at_call 85; (with_reducible refine (balance_any NA.cs.c0 NA.cs.c1 hp1 NA.right hs2).mono ?_); rintro e w2 ⟨p2, rfl, hp2, hb⟩; have NC := NA.later hb; have BC := BA.trans (hb.mono BA.size); clear NA hb))
      all_goals
        go_wp2
        go_ret
        exact ⟨p2, rfl, by rw [HT.out]; exact hp2, BC⟩
    · by_cases h2 : k' < k
      · have HT : Hid (T.ins k v (.node l k' v' r) = T.bal l k' v' (T.ins k v r)) := Lib.hid (by simp only [T.ins, if_neg h1, if_pos h2])
        have hs1 : r.size ≤ 900000 := by omega
        have hs2 : l.size + (T.ins k v r).size ≤ 1000000 := by omega
        have HI := Lib.hid (fun (w' : World) (h : NdAt w' pr r) => ihr h hs1)
        generalize T.ins k v (.node l k' v' r) = t at *
        generalize T.ins k v r = q at *
        clear ihl ihr z1 z2 hl hr d01
        subst hWd
        go_enter Try.func79, Try.ntmps79
        go_wp2
        go_region_held3 (fun w' => w'.cell? ⟨b, 3, none⟩ = some (.pointer pl) ∧ w'.cell? ⟨b, 4, none⟩ = some (.pointer pr) ∧ w'.cell? ⟨w.heap.size, 0, none⟩ = some (.int .i64 v.1) ∧ w'.cell? ⟨w.heap.size, 1, none⟩ = some (.int .i64 v.2)) (with_reducible first | exact ⟨ND.cs.c2, ND.cs.c3, ND.x0, ND.x1⟩ | exact ⟨NA.cs.c2, NA.cs.c3, NA.x0, NA.x1⟩ | exact ⟨NC.cs.c2, NC.cs.c3, NC.x0, NC.x1⟩ | go_keep) (first
          | (go_at_call 79; (with_reducible refine (HI.out _ ND.right).mono ?_); rintro e w2 ⟨p1, rfl, hp1, hb⟩; have NA := ND.later hb; have BA := HB.out.trans (hb.mono HB.out.size); clear ND hb)
          | (go_at_call 85; (with_reducible refine (balance_any NA.cs.c0 NA.cs.c1 NA.left hp1 hs2).mono ?_); rintro e w2 ⟨p2, rfl, hp2, hb⟩; have NC := NA.later hb; have BC := BA.trans (hb.mono BA.size); clear NA hb))
        all_goals
          go_wp2
          go_ret
          exact ⟨p2, rfl, by rw [HT.out]; exact hp2, BC⟩
      · have HT : Hid (T.ins k v (.node l k' v' r) = .node l k v r) := Lib.hid (by simp only [T.ins, if_neg h1, if_neg h2])
        have hs2 : l.size + r.size ≤ 1000000 := by omega
        generalize T.ins k v (.node l k' v' r) = t at *
        clear ihl ihr z1 z2 hl hr d01
        subst hWd
        go_enter Try.func79, Try.ntmps79
        go_wp2
        go_region_held3 (fun w' => w'.cell? ⟨b, 3, none⟩ = some (.pointer pl) ∧ w'.cell? ⟨b, 4, none⟩ = some (.pointer pr) ∧ w'.cell? ⟨w.heap.size, 0, none⟩ = some (.int .i64 v.1) ∧ w'.cell? ⟨w.heap.size, 1, none⟩ = some (.int .i64 v.2)) (with_reducible first | exact ⟨ND.cs.c2, ND.cs.c3, ND.x0, ND.x1⟩ | exact ⟨NC.cs.c2, NC.cs.c3, NC.x0, NC.x1⟩ | go_keep) (first
          | (go_at_call 86; (with_reducible refine (join_any k v ND.left ND.right hs2).mono ?_); rintro e w2 ⟨p2, rfl, hp2, hb⟩; have NC := ND.later hb; have BC := HB.out.trans (hb.mono HB.out.size); clear hb))
        all_goals
          go_wp2
          go_ret
          exact ⟨p2, rfl, by rw [HT.out]; exact hp2, BC⟩

/-- a pointer leads to a node with a pair; or it is none -/
def NodeOf (w : World) (q : Option Addr) : Option (Int × Vt) → Prop
  | none => q = none
  | some x => ∃ b, q = some ⟨b, 0, none⟩ ∧ w.cell? ⟨b, 0, none⟩ = some (.int .i64 x.1) ∧ w.cell? ⟨b, 1, none⟩ = some (.int .i64 x.2.1) ∧ w.cell? ⟨b, 2, none⟩ = some (.int .i64 x.2.2)
theorem NodeOf.later {w w' : World} {q : Option Addr} {o : Option (Int × Vt)} (h : NodeOf w q o) (hb : Below w.heap.size w w') : NodeOf w' q o := by
  cases o with
  | none => exact h
  | some x => obtain ⟨b, rfl, h0, h1⟩ := h; exact ⟨b, rfl, ck hb h0, ck2 hb h1⟩
/-- what is handed back is a node -/
def RetN (o : Option (Int × Vt)) (w : World) (e : Ending) (w' : World) : Prop := ∃ q, e = .returned (.pointer q) ∧ NodeOf w q o ∧ w = w'

set_option maxRecDepth 100000 in
set_option maxHeartbeats 4000000 in
theorem at_any {t : T} {p : Option Addr} {w : World} (h : NdAt w p t) (i : Int) (hi : -9223372036854775808 ≤ i ∧ i ≤ 9223372036854775807) (hs : t.size ≤ 1000000) :
    Calls Try.prog 63 #[.pointer p, .int .i64 i] w (RetN (atL t.toL i) w) := by
  have HN := Lib.hid h
  obtain ⟨o, ho⟩ : ∃ o, o = atL t.toL i := ⟨_, rfl⟩
  rw [← ho]
  have HO := Lib.hid ho
  clear ho h
  go_enter Try.func63, Try.ntmps63
  go_wp2
  go_loopg [0, 1] t.size (fun n s0 s1 wr => ∃ (t' : T) (p' : Option Addr) (i' : Int), s0 = .pointer p' ∧ s1 = .int .i64 i' ∧ t'.size = n ∧ NdAt w p' t' ∧ Hid (o = atL t'.toL i') ∧ t'.size ≤ 1000000 ∧ -9223372036854775808 ≤ i' ∧ i' ≤ 9223372036854775807 ∧ wr = w)
  case atStart => exact ⟨t, p, i, rfl, rfl, rfl, HN.out, HO, hs, hi.1, hi.2, rfl⟩
  case round =>
    clear HN HO hi hs
    obtain ⟨t', p', i', rfl, rfl, rfl, hn, HO, hs, h1, h2, rfl⟩ := hrel
    cases t' with
    | nil =>
      obtain rfl : p' = none := hn
      go_wp2
      go_ret
      exact ⟨none, rfl, by rw [HO.out, show T.nil.toL = [] from rfl, atL_nil]; rfl, rfl⟩
    | node l k v r =>
      obtain ⟨b, pl, pr, rfl, hb, hl, hr⟩ := hn
      obtain ⟨c0, c1, c2, c3, _, _⟩ := cs_of hb
      have HL := Lib.hid hl
      have HR := Lib.hid hr
      have hz := T.size_toL l
      simp only [T.size] at hs
      have HA := Lib.hid (show ∀ i : Int, i < (l.size : Int) → atL (T.node l k v r).toL i = atL l.toL i from fun i hi => atL_lo (by rw [hz]; exact hi))
      have HB := Lib.hid (show ∀ i : Int, i = (l.size : Int) → atL (T.node l k v r).toL i = some (k, v) from fun i hi => atL_eq (by rw [hz]; exact hi))
      have HC := Lib.hid (show ∀ i : Int, (l.size : Int) < i → atL (T.node l k v r).toL i = atL r.toL (i - ((l.size : Int) + 1)) from fun i hi => by rw [← hz] at hi ⊢; exact atL_hi hi)
      have HZ : Hid ((T.node l k v r).size = l.size + 1 + r.size) := Lib.hid rfl
      clear hb hl hr hz
      go_wp2_with (go_at_call 65; (with_reducible refine (count_any HL.out).mono ?_); rintro e w' ⟨rfl, rfl⟩)
      · have hlt : i' < (l.size : Int) := by omega
        go_roundg l.size
        case measure => rw [HZ.out]; omega
        case rel => exact ⟨l, pl, i', rfl, rfl, rfl, HL.out, Lib.hid (by rw [HO.out, HA.out i' hlt]), by omega, h1, h2, rfl⟩
      · have heq : i' = (l.size : Int) := by
          have h : (i' == (l.size : Int)) = true := by assumption
          simpa using h
        go_ret
        exact ⟨_, rfl, by rw [HO.out, HB.out _ heq]; exact ⟨b, rfl, c0, c1⟩, rfl⟩
      · have hgt : (l.size : Int) < i' := by
          have h : (i' == (l.size : Int)) = false := by assumption
          have h' : ¬ i' = (l.size : Int) := by simpa using h
          omega
        go_roundg r.size
        case measure => rw [HZ.out]; omega
        case rel => exact ⟨r, pr, i' - ((l.size : Int) + 1), rfl, rfl, rfl, HR.out, Lib.hid (by rw [HO.out, HC.out i' hgt]), by omega, by omega, by omega, rfl⟩

set_option maxRecDepth 100000 in
set_option maxHeartbeats 4000000 in
theorem without_any : ∀ (t : T) (k : Int) {p : Option Addr} {w : World}, NdAt w p t → t.size ≤ 900000 →
    Calls Try.prog 78 #[.pointer p, .int .i64 k] w (RetT (T.del k t) w) := by
  intro t
  induction t with
  | nil =>
    intro k p w h hs
    obtain rfl : p = none := h
    go_enter Try.func78, Try.ntmps78
    go_wp2_with fail
    go_ret
    exact ⟨none, rfl, rfl, Below.refl _ _⟩
  | node l k' v' r ihl ihr =>
    intro k p w h hs
    obtain ⟨b, pl, pr, rfl, hb, hl, hr⟩ := h
    have N : NdB w b l k' v' r pl pr := ⟨hb, hl, hr⟩
    obtain ⟨d01, d2, d3⟩ := N.c
    have d0 := d01.1
    have ND := N.later (Below.refl w.heap.size w).drew
    have HB := Lib.hid (Below.refl w.heap.size w).drew
    simp only [T.size] at hs
    have z1 := T.del_size k l
    have z2 := T.del_size k r
    clear hb N
    by_cases h1 : k < k'
    · have HT : Hid (T.del k (.node l k' v' r) = T.bal (T.del k l) k' v' r) := Lib.hid (by simp only [T.del, if_pos h1])
      have hs1 : l.size ≤ 900000 := by omega
      have hs2 : (T.del k l).size + r.size ≤ 1000000 := by omega
      have HI := Lib.hid (fun (w' : World) (h : NdAt w' pl l) => ihl k h hs1)
      generalize T.del k (.node l k' v' r) = t at *
      generalize T.del k l = q at *
      clear ihl ihr z1 z2 hl hr d01
      go_enter Try.func78, Try.ntmps78
      go_wp2
      go_region_held3 (fun w' => w'.cell? ⟨b, 3, none⟩ = some (.pointer pl) ∧ w'.cell? ⟨b, 4, none⟩ = some (.pointer pr)) (with_reducible first | exact ⟨ND.cs.c2, ND.cs.c3⟩ | exact ⟨NA.cs.c2, NA.cs.c3⟩ | exact ⟨NC.cs.c2, NC.cs.c3⟩ | go_keep) (first
        | (go_at_call 78; (with_reducible refine (HI.out _ ND.left).mono ?_); rintro e w2 ⟨p1, rfl, hp1, hb⟩; have NA := ND.later hb; have BA := HB.out.trans hb; clear ND hb)
        | (go_at_call 85; (with_reducible refine (balance_any NA.cs.c0 NA.cs.c1 hp1 NA.right hs2).mono ?_); rintro e w2 ⟨p2, rfl, hp2, hb⟩; have NC := NA.later hb; have BC := BA.trans (hb.mono BA.size); clear NA hb))
      all_goals
        go_wp2
        go_ret
        exact ⟨p2, rfl, by rw [HT.out]; exact hp2, BC⟩
    · by_cases h2 : k' < k
      · have HT : Hid (T.del k (.node l k' v' r) = T.bal l k' v' (T.del k r)) := Lib.hid (by simp only [T.del, if_neg h1, if_pos h2])
        have hs1 : r.size ≤ 900000 := by omega
        have hs2 : l.size + (T.del k r).size ≤ 1000000 := by omega
        have HI := Lib.hid (fun (w' : World) (h : NdAt w' pr r) => ihr k h hs1)
        generalize T.del k (.node l k' v' r) = t at *
        generalize T.del k r = q at *
        clear ihl ihr z1 z2 hl hr d01
        go_enter Try.func78, Try.ntmps78
        go_wp2
        go_region_held3 (fun w' => w'.cell? ⟨b, 3, none⟩ = some (.pointer pl) ∧ w'.cell? ⟨b, 4, none⟩ = some (.pointer pr)) (with_reducible first | exact ⟨ND.cs.c2, ND.cs.c3⟩ | exact ⟨NA.cs.c2, NA.cs.c3⟩ | exact ⟨NC.cs.c2, NC.cs.c3⟩ | go_keep) (first
          | (go_at_call 78; (with_reducible refine (HI.out _ ND.right).mono ?_); rintro e w2 ⟨p1, rfl, hp1, hb⟩; have NA := ND.later hb; have BA := HB.out.trans hb; clear ND hb)
          | (go_at_call 85; (with_reducible refine (balance_any NA.cs.c0 NA.cs.c1 NA.left hp1 hs2).mono ?_); rintro e w2 ⟨p2, rfl, hp2, hb⟩; have NC := NA.later hb; have BC := BA.trans (hb.mono BA.size); clear NA hb))
        all_goals
          go_wp2
          go_ret
          exact ⟨p2, rfl, by rw [HT.out]; exact hp2, BC⟩
      · cases r with
        | nil =>
          obtain rfl : pr = none := hr
          have HT : Hid (T.del k (.node l k' v' .nil) = l) := Lib.hid (by simp only [T.del, if_neg h1, if_neg h2, if_pos])
          generalize T.del k (.node l k' v' .nil) = t at *
          have HL := Lib.hid hl
          clear ihl ihr z1 z2 hl d01 ND
          go_enter Try.func78, Try.ntmps78
          go_wp2_with fail
          go_ret
          exact ⟨_, rfl, by rw [HT.out]; exact HL.out, Below.refl _ _⟩
        | node rl rk rv rr =>
          obtain ⟨br, x1, x2, rfl, hbr, hx1, hx2⟩ := hr
          have hr : NdAt w (some ⟨br, 0, none⟩) (.node rl rk rv rr) := ⟨br, x1, x2, rfl, hbr, hx1, hx2⟩
          generalize hR : T.node rl rk rv rr = R at *
          have hRn : R ≠ .nil := by subst hR; simp
          obtain ⟨⟨fk, fv⟩, hf'⟩ : ∃ x, x = R.first := ⟨_, rfl⟩
          have hf := hf'.symm
          clear hf'
          have z3 := T.del_size fk R
          have HT : Hid (T.del k (.node l k' v' R) = T.bal l fk fv (T.del fk R)) := Lib.hid (by simp only [T.del, if_neg h1, if_neg h2, if_neg hRn, hf])
          have hs1 : R.size ≤ 900000 := by omega
          have hs2 : l.size + (T.del fk R).size ≤ 1000000 := by omega
          have hs3 : R.size ≤ 1000000 := by omega
          have HI := Lib.hid (fun (w' : World) (h : NdAt w' (some ⟨br, 0, none⟩) R) => ihr fk h hs1)
          have HAT : Hid (Calls Try.prog 63 #[.pointer (some ⟨br, 0, none⟩), .int .i64 0] w (RetN (some (fk, fv)) w)) := Lib.hid (by
            have := at_any hr 0 (by omega) hs3
            rwa [atL_zero, T.first_toL R hRn, hf] at this)
          generalize T.del k (.node l k' v' R) = t at *
          generalize T.del fk R = q at *
          clear ihl ihr z1 z2 z3 hl hr d01 hbr hx1 hx2 hR hf hRn
          go_enter Try.func78, Try.ntmps78
          go_wp2_with (go_at_call 63; (with_reducible refine HAT.out.mono ?_); rintro e w' ⟨q0, rfl, ⟨bn, rfl, g0, g1⟩, rfl⟩)
          have G0 : w.drew.cell? ⟨bn, 0, none⟩ = some (.int .i64 fk) := g0
          have G1 : (w.drew.cell? ⟨bn, 1, none⟩ = some (.int .i64 fv.1) ∧ w.drew.cell? ⟨bn, 2, none⟩ = some (.int .i64 fv.2)) := g1
          go_region_held3 (fun w' => w'.cell? ⟨b, 3, none⟩ = some (.pointer pl) ∧ w'.cell? ⟨b, 4, none⟩ = some (.pointer (some ⟨br, 0, none⟩)) ∧ w'.cell? ⟨bn, 0, none⟩ = some (.int .i64 fk)) (with_reducible first | exact ⟨ND.cs.c2, ND.cs.c3, G0⟩ | exact ⟨NA.cs.c2, NA.cs.c3, GA0⟩ | exact ⟨NC.cs.c2, NC.cs.c3, GC0⟩ | go_keep) (first
            | (go_at_call 78; (with_reducible refine (HI.out _ ND.right).mono ?_); rintro e w2 ⟨p1, rfl, hp1, hb⟩; have NA := ND.later hb; have BA := HB.out.trans hb; have GA0 := ck hb G0; have GA1 := ck2 hb G1; clear ND hb G0 G1)
            | (go_at_call 85; (with_reducible refine (balance_any GA0 GA1 NA.left hp1 hs2).mono ?_); rintro e w2 ⟨p2, rfl, hp2, hb⟩; have NC := NA.later hb; have BC := BA.trans (hb.mono BA.size); have GC0 := ck hb GA0; clear NA hb))
          all_goals
            go_wp2
            go_ret
            exact ⟨p2, rfl, by rw [HT.out]; exact hp2, BC⟩
end Go.Proofs.Ytdoedcfmhdnbgaa.bv
