/-
  Package ledger: IndexFunc, drop, Dup, Clone.
-/
import Derived.Test.YtkimlcmbbfcffaaLedA
namespace Go.Proofs.Ytkimlcmbbfcffaa.lg
open Go.RowKit aid mem sp rn
attribute [local go_sem ↓] Go.wp_at_zero Go.wp_at_succ
set_option linter.unusedVariables false
set_option linter.unusedSimpArgs false

section
variable {P : Program} (w : World)
/-- append of whatever, also of nothing, onto a slice that leads somewhere -/
theorem run_append_slr0 (t tx ty : TypeId) (e : TypeId) (i : TypeInfo) (z : Value) (sz bytes : Nat) (ht : P.underlying t = some (.slice e)) (hi : P.info? e = some i) (hz : i.zero = some z)
    (hsize : i.size = sz) (hsz : 0 < sz) (hby : i.bytes = bytes) (hzs : z.cells.size = sz)
    (g off : Nat) (n cap : Nat) (xs : List Value) (hown : SlR w e sz (some ⟨g, off, none⟩) n cap xs) (x : Value) (m : Nat) (news : List Value) (hs : Src P sz tx x m news w)
    (h63 : n + m ≤ maxLen) (hbytes : (n + m) * bytes ≤ 140737488355328) :
    ∃ a' cap' w', (Builtin.append_ #[t, tx] ty #[.slice (some ⟨g, off, none⟩) n cap, x]).run P w = .ok (.slice a' (n + m) cap') w' ∧ SlR w' e sz a' (n + m) cap' (xs ++ news) ∧ Kept (blk (some ⟨g, off, none⟩) cap) w w' ∧
      ∀ b ∈ blk a' cap', b ∈ blk (some ⟨g, off, none⟩) cap ∨ w.heap.size ≤ b := by
  by_cases hm : m = 0
  · subst hm
    have hnl : news.length = 0 := by simpa using hs.newsLen
    obtain rfl : news = [] := List.eq_nil_of_length_eq_zero hnl
    have hs' : Src P i.size tx x 0 [] w := by rw [hsize]; exact hs
    have hr := run_append_room_src (P := P) w t tx ty e i ht hi g off n cap x 0 [] hs' (by have := hown.le; omega) (fun j hj => by simp at hj) (fun j hj => by simp at hj)
    refine ⟨some ⟨g, off, none⟩, cap, w, hr, by rw [List.append_nil]; exact hown, Kept.refl _ _, fun b hb => .inl hb⟩
  · exact run_append_slr w t tx ty e i z sz bytes ht hi hz hsize hsz hby hzs (some ⟨g, off, none⟩) n cap xs hown x m (by omega) news hs h63 hbytes
theorem step_append_slr0 {ops : Array Oper} {o : Oper} {a : Act} {K : Act → World → Prop} {Q : Exit → Act → World → Prop} {E : Prop} (hgd : o.guard = none) (s x : Operand) (t tx : TypeId)
    (ho : o.op = .call { callee := .builtin .append, args := #[s, x], argTypes := #[t, tx] })
    (e : TypeId) (i : TypeInfo) (z : Value) (sz bytes : Nat) (ht : P.underlying t = some (.slice e)) (hi : P.info? e = some i) (hz : i.zero = some z)
    (hsize : i.size = sz) (hsz : 0 < sz) (hby : i.bytes = bytes) (hzs : z.cells.size = sz)
    (g off : Nat) (n cap : Nat) (xs : List Value) (hsv : a.eval s = .slice (some ⟨g, off, none⟩) n cap) (hown : SlR w e sz (some ⟨g, off, none⟩) n cap xs) (xv : Value) (hx : a.eval x = xv) (m : Nat) (news : List Value) (hs : Src P sz tx xv m news w)
    (h63 : n + m ≤ maxLen) (hbytes : (n + m) * bytes ≤ 140737488355328)
    (h : ∀ a' cap' w', SlR w' e sz a' (n + m) cap' (xs ++ news) → Kept (blk (some ⟨g, off, none⟩) cap) w w' → (∀ b ∈ blk a' cap', b ∈ blk (some ⟨g, off, none⟩) cap ∨ w.heap.size ≤ b) → K (a.put o.dst (.slice a' (n + m) cap')) w') :
    if Region.wanted o (yielded ops a.tmps) = true then Oper.wp P o a w K Q else E := by
  have hw : Region.wanted o (yielded ops a.tmps) = true := by simp [Region.wanted, hgd]
  rw [if_pos hw]
  obtain ⟨a', cap', w', hr, h2, h3, h4⟩ := run_append_slr0 (P := P) w t tx o.type e i z sz bytes ht hi hz hsize hsz hby hzs g off n cap xs hown xv m news hs h63 hbytes
  unfold Oper.wp execOp
  simp only [ho, resolve, invoke, builtin, Sem.run_bind, Sem.run_pure, Result.andThen_ok, List.map_toArray, List.map_cons, List.map_nil, hsv, hx, hr]
  exact h a' cap' w' h2 h3 h4
end
theorem dup1_any {W : World} {X : Nat} {s : Sp} (h : SpAt W X s) (p : Sp) : Calls Try.prog 27 #[spV p, .pointer (some ⟨X, 0, none⟩)] W (RetB (holdsB s p) W) := by
  have b1 := bal (w := W) (.cells #[.int .i64 p.1, .int .i64 p.2] 32)
  have s0 := sp_new W p
  have h1 := h.later b1
  have c0 := s0.c0; have c1 := s0.c1
  have d0 := h1.c0; have d1 := h1.c1
  have HM := Lib.hid (fun V => holds_any s p V)
  have HB := Lib.hid b1
  clear b1 s0 h h1
  go_enter Try.func27, Try.ntmps27
  go_wp2_with (go_at_call 28; go_must (with_reducible refine (HM.out _).mono ?_); rintro e w3 ⟨rfl, hb3⟩)
  go_ret
  exact ⟨rfl, HB.out.trans (hb3.mono HB.out.size)⟩
theorem eg_dup1 : ∀ args w, (callFunc 27 args).run Try.prog w = .ok (.enter 27 args) w := enters_of Try.func27 (by kernel_rfl) rfl
def RetX (s : Sp) (l : List Sp) (w : World) (e : Ending) (w' : World) : Prop := e = .returned (.int .i64 (if hasB s l = true then (idx s l : Int) else -1)) ∧ Below w.heap.size w w'
set_option maxHeartbeats 1000000 in
theorem index_any {w : World} {a : Option Addr} {n cap : Nat} {l : List Sp} (h : SlR w 32 2 a n cap (spCells l)) {X : Nat} {s : Sp} (hs : SpAt w X s) (hn : n ≤ 100000) :
    Calls Try.prog 32 #[.slice a n cap, .func (.func 27) #[] #[.pointer (some ⟨X, 0, none⟩)]] w (RetX s l w) := by
  have hle := h.le
  have hmost := h.most
  have hlen := row_len h
  unfold maxLen at hmost
  have HP1 := Lib.hid (fun (k : Nat) (hk : k < n) (h : ∀ t, t < k → holdsB s (l.getD t (0, 0)) = false) (h2 : holdsB s (l.getD k (0, 0)) = true) => show (if hasB s l = true then (idx s l : Int) else -1) = (k : Int) from by
    have e := idx_is (by omega) h h2
    rw [if_pos (by unfold hasB; rw [e]; exact decide_eq_true (by omega)), e])
  have HP2 := Lib.hid (fun (h : ∀ t, t < n → holdsB s (l.getD t (0, 0)) = false) => show (if hasB s l = true then (idx s l : Int) else -1) = -1 from by
    rw [if_neg (by rw [idx_none (by rw [hlen]; exact h)]; simp)])
  have HC := Lib.hid (fun (h0 : 0 < n) => row_cells h h0)
  have HSP := Lib.hid hs
  clear h hlen hs
  go_enter Try.func32, Try.ntmps32
  go_wp2_with fail
  go_loopw [8] (fun i wr => ∃ k : Nat, k ≤ n ∧ i = .int .i64 k ∧ Below w.heap.size w wr ∧ Hid (∀ t, t < k → holdsB s (l.getD t (0, 0)) = false)) (fun i _ => n - (intOf i).toNat)
  case atStart => exact ⟨0, Nat.zero_le _, rfl, Below.refl _ _, Lib.hid (fun t ht => by omega)⟩
  case round =>
    obtain ⟨k, hk, rfl, hb, HI⟩ := hrel
    by_cases hlt : k < n
    · obtain ⟨g, off, rfl, hc⟩ := HC.out (by omega)
      obtain ⟨m0, m1⟩ := hc k hlt
      replace m0 := kcell hb m0
      replace m1 := kcell hb m1
      have HN := Lib.hid (fun (h2 : holdsB s (l.getD k (0, 0)) = false) => show ∀ t, t < k + 1 → holdsB s (l.getD t (0, 0)) = false from fun t ht => by
        by_cases c : t = k
        · subst c; exact h2
        · exact HI.out t (by omega))
      have HY := Lib.hid (fun (h2 : holdsB s (l.getD k (0, 0)) = true) => HP1.out k hlt HI.out h2)
      have HR := Lib.hid (dup1_any (HSP.out.later hb) (l.getD k (0, 0)))
      clear hc
      generalize l.getD k (0, 0) = m at *
      cases hz : holdsB s m with
      | true =>
        have HE := Lib.hid (HY.out hz)
        rw [hz] at HR
        clear HN HY hz
        go_wp2_with (go_at_call 27; go_must (refine HR.out.mono ?_); rintro e w' ⟨rfl, hb3⟩)
        go_ret
        exact ⟨by rw [HE.out]; rfl, hb.trans (hb3.mono hb.size)⟩
      | false =>
        have HE := Lib.hid (HN.out hz)
        rw [hz] at HR
        clear HN HY hz
        go_wp2_with (go_at_call 27; go_must (refine HR.out.mono ?_); rintro e w' ⟨rfl, hb3⟩)
        go_roundw
        case rel => exact ⟨k + 1, by omega, by go_num, hb.trans (hb3.mono hb.size), HE⟩
        case measure => simp [intOf]; omega
    · obtain rfl : k = n := by omega
      have HE := Lib.hid (HP2.out HI.out)
      go_wp2
      go_ret
      exact ⟨by rw [HE.out]; rfl, hb⟩
/-- list[:k:k] -/
theorem slice_head {w : World} {g off : Nat} {n cap : Nat} {l : List Sp} (h : SlR w 32 2 (some ⟨g, off, none⟩) n cap (spCells l)) (k : Nat) (hk : k ≤ n) :
    (∀ wx, (Instr.slice 26 (.slice (some ⟨g, off, none⟩) n cap) none (some (.int .i64 (k : Int))) (some (.int .i64 (k : Int)))).run Try.prog wx = .ok (.slice (some ⟨g, off, none⟩) k k) wx) ∧
      ∀ C, SlR C 32 2 (some ⟨g, off, none⟩) n cap (spCells l) → SlR C 32 2 (some ⟨g, off, none⟩) k k (spCells (l.take k)) := by
  obtain ⟨i0, hi, hz0, hz1, hz2⟩ := info_split info_span
  have hle := h.le
  have h1 : k ≤ cap := by omega
  refine ⟨fun wx => ?_, fun C hC => ?_⟩
  · have e1 : (asIntOf (.int .i64 (k : Int))).run Try.prog wx = .ok (.i64, (k : Int)) wx := rfl
    by_cases hk0 : k = 0
    · subst hk0
      have e1 : (asIntOf (.int .i64 0)).run Try.prog wx = .ok (.i64, 0) wx := rfl
      simp [Instr.slice, Instr.sliceBounds, Instr.sliceBound, run_underlying Try.underlying26, sizeOf, typeInfo, hi, hz1, e1, h1, Addr.add]
    · have hk1 : ¬ (k : Int) = 0 := by omega
      simp [Instr.slice, Instr.sliceBounds, Instr.sliceBound, run_underlying Try.underlying26, sizeOf, typeInfo, hi, hz1, e1, h1, Addr.add]
  · by_cases hk0 : k = 0
    · subst hk0
      exact SlR.sub0 _
    · have := hC.sub 0 k k (by omega) hk (Nat.le_refl _) (by omega) (by omega)
      rw [spTake, spDrop] at this
      simpa using this
/-- list[k+1:] -/
theorem slice_tail {w : World} {g off : Nat} {n cap : Nat} {l : List Sp} (h : SlR w 32 2 (some ⟨g, off, none⟩) n cap (spCells l)) (k : Nat) (hk : k < n) :
    ∃ a', (∀ wx, (Instr.slice 26 (.slice (some ⟨g, off, none⟩) n cap) (some (.int .i64 ((k : Int) + 1))) none none).run Try.prog wx = .ok (.slice a' (n - (k + 1)) (cap - (k + 1))) wx) ∧
      ∀ C, SlR C 32 2 (some ⟨g, off, none⟩) n cap (spCells l) → SlR C 32 2 a' (n - (k + 1)) (cap - (k + 1)) (spCells (l.drop (k + 1))) := by
  obtain ⟨i0, hi, hz0, hz1, hz2⟩ := info_split info_span
  have hle := h.le
  have hlen := row_len h
  have h1 : k + 1 ≤ cap := by omega
  have h2 : k + 1 ≤ n := by omega
  refine ⟨if cap = k + 1 then some ⟨g, off, none⟩ else some ⟨g, off + (k + 1) * 2, none⟩, fun wx => ?_, fun C hC => ?_⟩
  · have e1 : (asIntOf (.int .i64 ((k : Int) + 1))).run Try.prog wx = .ok (.i64, (k : Int) + 1) wx := rfl
    have e2 : ((k : Int) + 1) = ((k + 1 : Nat) : Int) := by omega
    rw [e2] at e1 ⊢
    have h4 : ¬ (k + 1) * 2 = 0 := by omega
    have h5 : ¬ k + 1 = 0 := by omega
    generalize k + 1 = q at *
    have h3 : ¬ (q : Int) < 0 := by omega
    simp [Instr.slice, Instr.sliceBounds, Instr.sliceBound, run_underlying Try.underlying26, sizeOf, typeInfo, hi, hz1, e1, h1, h2, h4, h5, Addr.add]
  · by_cases c : cap = k + 1
    · rw [if_pos c]
      have hz : n - (k + 1) = 0 := by omega
      have hz' : cap - (k + 1) = 0 := by omega
      rw [hz, hz', List.drop_eq_nil_of_le (by omega)]
      exact SlR.sub0 _
    · rw [if_neg c]
      have := hC.sub (k + 1) n cap (by omega) (Nat.le_refl _) hle (Nat.le_refl _) (by omega)
      rw [spTake, spDrop, List.take_of_length_le (by omega)] at this
      exact this
end Go.Proofs.Ytkimlcmbbfcffaa.lg
