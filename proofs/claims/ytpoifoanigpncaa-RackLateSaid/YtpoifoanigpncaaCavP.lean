/-
  Package avl: putting, the node at a place, deleting.
-/
import Derived.Test.YtpoifoanigpncaaCavB
import Derived.Test.YtpoifoanigpncaaCavY
namespace Go.Proofs.Ytpoifoanigpncaa.cv
open Go.RowKit aid mem
attribute [local go_sem ↓] Go.wp_at_zero Go.wp_at_succ
set_option linter.unusedVariables false

set_option maxRecDepth 100000 in
set_option maxHeartbeats 4000000 in
theorem with_any (k : Int) (v : Vt) : ∀ (t : T) {p : Option Addr} {w : World}, NdAt w p t → t.size ≤ 900000 →
    Calls Try.prog 66 #[.pointer p, .int .i64 k, .pointer v] w (RetT (T.ins k v t) w) := by
  intro t
  induction t with
  | nil =>
    intro p w h hs
    obtain rfl : p = none := h
    have HJ := Lib.hid (join_any (l := .nil) (r := .nil) (pl := none) (pr := none) k v (w := w) rfl rfl (by simp [T.size]))
    go_enter Try.func66, Try.ntmps66
    go_wp2_with (go_at_call 76; (with_reducible refine HJ.out.mono ?_); rintro e w' ⟨p, rfl, hp, hb⟩)
    go_ret
    exact ⟨p, rfl, hp, hb⟩
  | node l k' v' r ihl ihr =>
    intro p w h hs
    obtain ⟨b, pl, pr, rfl, hb, hl, hr⟩ := h
    have N : NdB w b l k' v' r pl pr := ⟨hb, hl, hr⟩
    obtain ⟨d01, d2, d3⟩ := N.c
    have d0 := d01.1
    have ND := N.later (Below.refl w.heap.size w).drew
    have HB := Lib.hid (Below.refl w.heap.size w).drew
    simp only [T.size] at hs
    have z1 := T.ins_size k v l
    have z2 := T.ins_size k v r
    clear hb N
    by_cases h1 : k < k'
    · have HT : Hid (T.ins k v (.node l k' v' r) = T.bal (T.ins k v l) k' v' r) := Lib.hid (by simp only [T.ins, if_pos h1])
      have hs1 : l.size ≤ 900000 := by omega
      have hs2 : (T.ins k v l).size + r.size ≤ 1000000 := by omega
      have HI := Lib.hid (fun (w' : World) (h : NdAt w' pl l) => ihl h hs1)
      generalize T.ins k v (.node l k' v' r) = t at *
      generalize T.ins k v l = q at *
      clear ihl ihr z1 z2 hl hr d01
      go_enter Try.func66, Try.ntmps66
      go_wp2
      go_region_held3 (fun w' => w'.cell? ⟨b, 2, none⟩ = some (.pointer pl) ∧ w'.cell? ⟨b, 3, none⟩ = some (.pointer pr)) (with_reducible first | exact ⟨ND.cs.c2, ND.cs.c3⟩ | exact ⟨NA.cs.c2, NA.cs.c3⟩ | exact ⟨NC.cs.c2, NC.cs.c3⟩ | go_keep) (first
        | (go_at_call 66; (with_reducible refine (HI.out _ ND.left).mono ?_); rintro e w2 ⟨p1, rfl, hp1, hb⟩; have NA := ND.later hb; have BA := HB.out.trans hb; clear ND hb)
        | (go_at_call 77; (with_reducible refine (balance_any NA.cs.c0 NA.cs.c1 hp1 NA.right hs2).mono ?_); rintro e w2 ⟨p2, rfl, hp2, hb⟩; have NC := NA.later hb; have BC := BA.trans (hb.mono BA.size); clear NA hb))
      all_goals
        go_wp2
        go_ret
        exact ⟨p2, rfl, by rw [HT.out]; exact hp2, BC⟩
    · by_cases h2 : k' < k
      · have HT : Hid (T.ins k v (.node l k' v' r) = T.bal l k' v' (T.ins k v r)) := Lib.hid (by simp only [T.ins, if_neg h1, if_pos h2])
        have hs1 : r.size ≤ 900000 := by omega
        have hs2 : l.size + (T.ins k v r).size ≤ 1000000 := by omega
        have HI := Lib.hid (fun (w' : World) (h : NdAt w' pr r) => ihr h hs1)
        generalize T.ins k v (.node l k' v' r) = t at *
        generalize T.ins k v r = q at *
        clear ihl ihr z1 z2 hl hr d01
        go_enter Try.func66, Try.ntmps66
        go_wp2
        go_region_held3 (fun w' => w'.cell? ⟨b, 2, none⟩ = some (.pointer pl) ∧ w'.cell? ⟨b, 3, none⟩ = some (.pointer pr)) (with_reducible first | exact ⟨ND.cs.c2, ND.cs.c3⟩ | exact ⟨NA.cs.c2, NA.cs.c3⟩ | exact ⟨NC.cs.c2, NC.cs.c3⟩ | go_keep) (first
          | (go_at_call 66; (with_reducible refine (HI.out _ ND.right).mono ?_); rintro e w2 ⟨p1, rfl, hp1, hb⟩; have NA := ND.later hb; have BA := HB.out.trans hb; clear ND hb)
          | (go_at_call 77; (with_reducible refine (balance_any NA.cs.c0 NA.cs.c1 NA.left hp1 hs2).mono ?_); rintro e w2 ⟨p2, rfl, hp2, hb⟩; have NC := NA.later hb; have BC := BA.trans (hb.mono BA.size); clear NA hb))
        all_goals
          go_wp2
          go_ret
          exact ⟨p2, rfl, by rw [HT.out]; exact hp2, BC⟩
      · have HT : Hid (T.ins k v (.node l k' v' r) = .node l k v r) := Lib.hid (by simp only [T.ins, if_neg h1, if_neg h2])
        have hs2 : l.size + r.size ≤ 1000000 := by omega
        generalize T.ins k v (.node l k' v' r) = t at *
        clear ihl ihr z1 z2 hl hr d01
        go_enter Try.func66, Try.ntmps66
        go_wp2
        go_region_held3 (fun w' => w'.cell? ⟨b, 2, none⟩ = some (.pointer pl) ∧ w'.cell? ⟨b, 3, none⟩ = some (.pointer pr)) (with_reducible first | exact ⟨ND.cs.c2, ND.cs.c3⟩ | exact ⟨NC.cs.c2, NC.cs.c3⟩ | go_keep) (first
          | (go_at_call 76; (with_reducible refine (join_any k v ND.left ND.right hs2).mono ?_); rintro e w2 ⟨p2, rfl, hp2, hb⟩; have NC := ND.later hb; have BC := HB.out.trans hb; clear hb))
        all_goals
          go_wp2
          go_ret
          exact ⟨p2, rfl, by rw [HT.out]; exact hp2, BC⟩

/-- a pointer leads to a node with a pair; or it is none -/
def NodeOf (w : World) (q : Option Addr) : Option (Int × Vt) → Prop
  | none => q = none
  | some x => ∃ b, q = some ⟨b, 0, none⟩ ∧ w.cell? ⟨b, 0, none⟩ = some (.int .i64 x.1) ∧ w.cell? ⟨b, 1, none⟩ = some (.pointer x.2)
theorem NodeOf.later {w w' : World} {q : Option Addr} {o : Option (Int × Vt)} (h : NodeOf w q o) (hb : Below w.heap.size w w') : NodeOf w' q o := by
  cases o with
  | none => exact h
  | some x => obtain ⟨b, rfl, h0, h1⟩ := h; exact ⟨b, rfl, ck hb h0, ck hb h1⟩
/-- what is handed back is a node -/
def RetN (o : Option (Int × Vt)) (w : World) (e : Ending) (w' : World) : Prop := ∃ q, e = .returned (.pointer q) ∧ NodeOf w q o ∧ w = w'

end Go.Proofs.Ytpoifoanigpncaa.cv
