/-
  The walk of the law SumOf, where what it reads is of bulk at most 1048576.
-/
import Derived.Test.YtdpambnoaagmjaaSumL
import Derived.Test.YtdpambnoaagmjaaOpen
import Derived.Test.YtdpambnoaagmjaaRows
namespace Go.Proofs.Ytdpambnoaagmjaa.sm
open Go.RowKit Go.ChangeShapes aid mem opn
set_option linter.unusedVariables false

/-- a slice of bytes, one of many that came in -/
structure RowV where
  a : Option Addr
  len : Nat
  cap : Nat
  z : List Int
def RowV.l (v : RowV) : List Int := v.z.take v.len
def RowIs (w : World) (cs : List Value) (v : RowV) : Prop := cs = [.slice v.a v.len v.cap] ∧ IsRow .u8 w v.a v.len v.cap v.z
def RowD {H : Type} (d : DataW H) (v : RowV) : Prop := (d = .nil ∧ v.len = 0) ∨ ∃ el sp, d = .slice el sp ∧ el.length = v.len

theorem cells_u8 : Try.prog.cellsOf 5 = 1 := by kernel_rfl
theorem cells_bs : Try.prog.cellsOf 25 = 1 := by kernel_rfl

theorem row_of {H : Type} {enc : TypeId × Value → H} {w : World} {base : Nat} (n : Nat) (cs : List Value) (d : DataW H) (p : List MemPlace)
    (h : DataW.trod enc Try.prog w base (fun _ => true) true n 25 cs = some (d, p)) : ∃ x : RowV, RowIs w cs x ∧ RowD d x := by
  rcases open_ints Try.underlying25 Try.underlying5 cells_u8 h with ⟨hcs, hx2⟩ | ⟨a, len, cap, zs, hcs, _, hl, hm, hz, hx2, hcell, hwz⟩
  · exact ⟨⟨none, 0, 0, []⟩, ⟨hcs, .inl ⟨rfl, rfl, rfl, rfl⟩⟩, .inl ⟨by injection hx2, rfl⟩⟩
  · exact ⟨⟨some a, len, cap, zs⟩, ⟨hcs, .inr ⟨_, rfl, hl, hm, by simpa using hz, hcell, hwz⟩⟩, .inr ⟨_, _, by injection hx2, by simp [lits]; simp at hz; omega⟩⟩

theorem open_rows {H : Type} {enc : TypeId × Value → H} {w : World} {base : Nat} {a : Option Addr} {len cap : Nat} {d : DataW H} {p : List MemPlace}
    (h : ∃ fuel, DataW.trod enc Try.prog w base (fun _ => true) true fuel 22 [.slice a len cap] = some (d, p)) :
    ∃ l : List RowV, ElA (RowIs w) 1 w a len cap l ∧ ((d = .nil ∧ l = []) ∨ ∃ elems rest, d = .slice elems rest ∧ elems.length = l.length ∧ ∀ i (hi : i < l.length) (hi' : i < elems.length), RowD elems[i] l[i]) := by
  have := open_els (R := RowIs w) (D := RowD) Try.underlying22 (by rw [cells_bs]; omega) h row_of
  rwa [cells_bs] at this

/-! ### how much there is in all -/
theorem bulk_len {H : Type} : ∀ q : List (DataW H), q.length ≤ Rows.uptoBulkAll q := by
  intro q
  induction q with
  | nil => simp [Rows.uptoBulkAll]
  | cons x q ih =>
    have : 1 ≤ Rows.uptoBulk x := by cases x with
      | lit l => cases l <;> simp [Rows.uptoBulk]
      | _ => simp [Rows.uptoBulk]
    simp only [Rows.uptoBulkAll, List.length_cons]
    omega
theorem bulk_part {H : Type} : ∀ (els : List (DataW H)) (l : List RowV), els.length = l.length → (∀ i (hi : i < l.length) (hi' : i < els.length), RowD els[i] l[i]) → (l.map (·.len)).sum ≤ Rows.uptoBulkAll els := by
  intro els
  induction els with
  | nil => intro l hl _; simp at hl; obtain rfl := List.eq_nil_of_length_eq_zero hl.symm; simp
  | cons d r ih =>
    intro l hl h
    cases l with
    | nil => simp at hl
    | cons v l =>
      have h0 := h 0 (by simp) (by simp)
      have ht := ih l (by simpa using hl) (fun i hi hi' => by have := h (i + 1) (by simp; omega) (by simp; omega); simpa using this)
      simp only [List.map_cons, List.sum_cons, Rows.uptoBulkAll]
      have : v.len ≤ Rows.uptoBulk d := by
        simp only [List.getElem_cons_zero] at h0
        rcases h0 with ⟨_, h⟩ | ⟨el, sp, h, hl⟩
        · omega
        · rw [h]
          simp only [Rows.uptoBulk, Rows.uptoBulkAll]
          have := bulk_len el
          omega
      omega

theorem bulk_rows {H : Type} {d : DataW H} {l : List RowV} {r : List (DataW H)} (h : (d = .nil ∧ l = []) ∨ ∃ elems rest, d = .slice elems rest ∧ elems.length = l.length ∧ ∀ i (hi : i < l.length) (hi' : i < elems.length), RowD elems[i] l[i])
    (hk : Rows.uptoSmall H (d :: r) = true) : (l.map (·.len)).sum ≤ 1048576 := by
  have hb := of_decide_eq_true hk
  simp only [Rows.uptoBulkAll] at hb
  rcases h with ⟨_, rfl⟩ | ⟨els, rest, rfl, hl, hD⟩
  · simp
  · have := bulk_part els l hl hD
    simp only [Rows.uptoBulk] at hb
    omega

/-- the lists of all rows -/
def listsOf (l : List RowV) : List (List Int) := l.map RowV.l
theorem listsOf_len (l : List RowV) : (listsOf l).length = l.length := by simp [listsOf]
theorem listsOf_getD (l : List RowV) (i : Nat) (hi : i < l.length) : (listsOf l).getD i [] = l[i].l := by simp [listsOf, List.getD, hi]

theorem el_row {w : World} {a : Option Addr} {n cap : Nat} {l : List RowV} (h : ElA (RowIs w) 1 w a n cap l) (hn : 0 < n) :
    ∃ b off, a = some ⟨b, off, none⟩ ∧ b < w.heap.size ∧ ∀ i (hi : i < l.length), w.cell? ⟨b, off + i, none⟩ = some (.slice l[i].a l[i].len l[i].cap) ∧ IsRow .u8 w l[i].a l[i].len l[i].cap l[i].z := by
  obtain ⟨b, off, ha, hc⟩ := h.cells hn
  have key : ∀ i (hi : i < l.length), w.cell? ⟨b, off + i, none⟩ = some (.slice l[i].a l[i].len l[i].cap) ∧ IsRow .u8 w l[i].a l[i].len l[i].cap l[i].z := by
    intro i hi
    obtain ⟨cs, ⟨hR, hr⟩, _, hcj⟩ := hc i hi
    have := hcj 0 (by omega)
    rw [hR] at this
    simp at this
    exact ⟨this, hr⟩
  have hl := h.len
  exact ⟨b, off, ha, World.block_lt_of_cell? w _ (key 0 (by omega)).1, key⟩

theorem rows_of_el {w : World} {a : Option Addr} {n cap : Nat} {l : List RowV} (h : ElA (RowIs w) 1 w a n cap l) : RowsA w.heap.size w a n (listsOf l) :=
  ⟨by rw [listsOf_len]; exact h.len, Nat.le_trans h.le h.most, fun h0 => by
    obtain ⟨b, off, ha, hb, hc⟩ := el_row h h0
    refine ⟨b, off, ha, hb, fun i hi => ?_⟩
    have hil : i < l.length := by rw [h.len]; exact hi
    obtain ⟨h1, h2⟩ := hc i hil
    exact ⟨_, _, _, h1, by rw [listsOf_getD l i hil]; exact bytes_of_sl (sl_of_row h2)⟩⟩
theorem RowsA.mono {n₀ n₁ : Nat} {w : World} {a : Option Addr} {n : Nat} {ls : List (List Int)} (h : RowsA n₀ w a n ls) (hn : n₀ ≤ n₁) : RowsA n₁ w a n ls :=
  ⟨h.len, h.most, fun h0 => by
    obtain ⟨b, off, ha, hb, hc⟩ := h.cells h0
    refine ⟨b, off, ha, by omega, fun i hi => ?_⟩
    obtain ⟨x, m, c, h1, h2⟩ := hc i hi
    refine ⟨x, m, c, h1, h2.len, h2.most, fun hm => ?_⟩
    obtain ⟨b2, o2, hx, hb2, hc2⟩ := h2.cells hm
    exact ⟨b2, o2, hx, by omega, hc2⟩⟩
theorem bd_of_el {w : World} {a : Option Addr} {n cap : Nat} {l : List RowV} (h : ElA (RowIs w) 1 w a n cap l) : ∀ r ∈ listsOf l, ∀ x ∈ r, 0 ≤ x ∧ x ≤ 255 := by
  intro r hr
  obtain ⟨v, hv, rfl⟩ := List.mem_map.1 hr
  obtain ⟨i, hi, rfl⟩ := List.mem_iff_getElem.1 hv
  have hl := h.len
  obtain ⟨b, off, ha, hb, hc⟩ := el_row h (by omega)
  exact bytes_of_row (hc i hi).2

/-- how many bytes the first lists have -/
theorem ahead_len {w : World} {a : Option Addr} {n cap : Nat} {l : List RowV} (h : ElA (RowIs w) 1 w a n cap l) (hs : (l.map (·.len)).sum ≤ 1048576) (k : Nat) : (ahead (listsOf l) k 0).length ≤ 1048576 := by
  have e : ((listsOf l).take k).flatten.length = ((l.take k).map (fun v => v.l.length)).sum := by
    simp [listsOf, List.length_flatten, List.map_take, Function.comp_def]
  have e2 : ∀ v : RowV, v.l.length ≤ v.len := fun v => by simp [RowV.l]; omega
  have e3 : ∀ q : List RowV, (q.map (fun v => v.l.length)).sum ≤ (q.map (·.len)).sum := by
    intro q
    induction q with
    | nil => simp
    | cons v q ih => have := e2 v; simp only [List.map_cons, List.sum_cons]; omega
  have e4 : ((l.take k).map (·.len)).sum ≤ (l.map (·.len)).sum := by
    conv => rhs; rw [← List.take_append_drop k l]
    rw [List.map_append, List.sum_append]
    omega
  unfold ahead
  rw [List.length_append, e]
  have := e3 (l.take k)
  have h0 : (((listsOf l).getD k []).take 0).length = 0 := by simp
  omega

def JoinedPost (L : List Int) (w : World) (e : Ending) (w' : World) : Prop :=
  ∃ v, e = .returned v ∧ w'.ownsRow w.heap.size 5 1 v L.length (ints .u8 L) ∧ Below w.heap.size w w'

set_option maxRecDepth 100000 in
set_option maxHeartbeats 1600000 in
theorem joined_any (a : Option Addr) (n cap : Nat) (l : List RowV) (w0 w : World) (h : ElA (RowIs w0) 1 w0 a n cap l) (hw : Below w0.heap.size w0 w) (hsum : (l.map (·.len)).sum ≤ 1048576) :
    Calls Try.prog 13 #[.slice a n cap] w (JoinedPost (listsOf l).flatten w) := by
  obtain ⟨i0, hi, hz0, hz1, hz2⟩ := info_parts info_u8
  have hll := h.len
  have hle := h.le
  have hmost := h.most
  have HA := Lib.hid (ahead_len h hsum)
  unfold maxLen at hmost
  by_cases hn : n = 0
  · subst hn
    obtain rfl : l = [] := List.eq_nil_of_length_eq_zero hll
    go_enter Try.func13, Try.ntmps13
    go_wp2
    go_loop [3, 4] (fun v i => i = .int .i64 0 ∧ v = .slice none 0 0) (fun _ _ => 0)
    case atStart => exact ⟨rfl, rfl⟩
    case round =>
      obtain ⟨rfl, rfl⟩ := hrel
      go_wp2
      go_ret
      exact ⟨_, rfl, World.ownsRow_nil _ _ _ _, Below.refl _ _⟩
  · obtain ⟨b, off, rfl, hb, hc⟩ := el_row h (by omega)
    have HC := Lib.hid hc
    have HL := Lib.hid hll
    clear hc hll
    go_enter Try.func13, Try.ntmps13
    go_wp2
    go_loopw [3, 4] (fun v i wr => ∃ (k m : Nat) (a3 : Option Addr) (c3 : Nat), k ≤ n ∧ i = .int .i64 (k : Nat) ∧ v = .slice a3 m c3 ∧ Hid ((ahead (listsOf l) k 0).length = m) ∧ wr.ownsRow w.heap.size 5 1 (.slice a3 m c3) m (ints .u8 (ahead (listsOf l) k 0)) ∧ Below w.heap.size w wr) (fun _ i _ => n - (intOf i).toNat)
    case atStart => exact ⟨0, 0, none, 0, Nat.zero_le _, rfl, rfl, Lib.hid (by simp [ahead]), by rw [ahead_zero]; exact World.ownsRow_nil _ _ _ _, Below.refl _ _⟩
    case round =>
      obtain ⟨k, m, a3, c3, hk, rfl, rfl, Hm, hown, hbel⟩ := hrel
      have hsz := hbel.size
      have hb0 := hw.trans (hbel.mono hw.size)
      by_cases hlt : k < n
      · have hkl : k < l.length := by rw [HL.out]; exact hlt
        obtain ⟨hcell, hrow⟩ := HC.out k hkl
        have hcell' := (hb0.cell (p := ⟨b, off + k, none⟩) hb).trans hcell
        have hsl := (sl_of_row hrow).later hb0
        have hsrc := hsl.src Try.underlying25
        have hl1 := hsl.len
        have HN : Hid (ahead (listsOf l) (k + 1) 0 = ahead (listsOf l) k 0 ++ l[k].l) := Lib.hid (by
          rw [← ahead_next (listsOf l) k (by rw [listsOf_len, HL.out]; exact hlt), listsOf_getD l k (by rw [HL.out]; exact hlt)]
          unfold ahead
          rw [listsOf_getD l k (by rw [HL.out]; exact hlt)]
          simp)
        have hA := HA.out (k + 1)
        rw [HN.out, List.length_append, Hm.out] at hA
        have hl2 : l[k].l.length = l[k].len := hl1
        rw [hl2] at hA
        have HL2 := Lib.hid hl2
        clear hcell hrow hl1 hl2
        generalize l[k] = v at *
        have e1 : v.z.take v.len = v.l := rfl
        rw [e1] at hsrc
        have hk0 : (0 : Int) ≤ (k : Int) := by omega
        have hk1 : (k : Int) < (n : Int) := by omega
        clear e1 hsl
        generalize v.l = L at *
        generalize v.len = M at *
        go_wp2_with (at_builtin; refine wpList_append_any _ rfl (.tmp 11) (.tmp 15) 25 25 rfl w.heap.size 5 i0 (.int .u8 0) 1 Try.underlying25 hi hz0 hz1 hz2 rfl (.slice a3 m c3) m (ints .u8 (ahead (listsOf l) k 0)) rfl hown (.slice v.a M v.cap) rfl M (ints .u8 L) hsrc (by unfold maxLen; omega) (by omega) hsz ?_; intro a4 cap4 w3 hown3 hgr hat3)
        go_roundw
        case rel =>
          refine ⟨k + 1, m + M, a4, cap4, by omega, by go_num, rfl, Lib.hid (by rw [HN.out, List.length_append, Hm.out, HL2.out]), by rw [HN.out, ints_append]; exact hown3, hbel.grown hgr hsz (fun j hj => (hown.lt j hj).1)⟩
        case measure => simp [intOf]; omega
      · go_wp2
        go_ret
        have e : ahead (listsOf l) k 0 = (listsOf l).flatten := by
          rw [show k = (listsOf l).length from by rw [listsOf_len, HL.out]; omega]; exact ahead_end _
        rw [← e]
        exact ⟨_, rfl, by rw [Hm.out]; exact hown, hbel⟩

set_option maxRecDepth 100000 in
set_option maxHeartbeats 1600000 in
theorem walk_SumOf (w : World) (a0 : Option Addr) (len0 cap0 : Nat) (l0 : List RowV) (e0 : ElA (RowIs w) 1 w a0 len0 cap0 l0) (a1 : Int) (b1 : 0 ≤ a1 ∧ a1 ≤ 65535) (a2 : Int) (b2 : 0 ≤ a2 ∧ a2 ≤ 65535) (hbulk : (l0.map (·.len)).sum ≤ 1048576) :
    Calls Try.prog 3 #[.slice a0 len0 cap0, .int .u16 a1, .int .u16 a2] w fun e w' => e = .returned (.bool true) ∧ Below w.heap.size w w' := by
  have hR := rows_of_el e0
  have HB := Lib.hid (bd_of_el e0)
  go_enter Try.func3, Try.ntmps3
  go_wp2_with fail
  refine (known_any w).mono ?_
  rintro e wk ⟨rfl, hk⟩
  go_wp2_with fail
  refine (joined_any a0 len0 cap0 l0 w wk e0 hk hbulk).mono ?_
  rintro e w1 ⟨v, rfl, hown, h1⟩
  obtain ⟨a3, c3, hv, hs1, _⟩ := sl_of_own hown
  subst hv
  have hfb : ∀ x ∈ (listsOf l0).flatten, 0 ≤ x ∧ x ≤ 255 := flat_bd HB.out
  have HF := Lib.hid hfb
  have hB1 : Below w.heap.size w w1 := hk.trans (h1.mono hk.size)
  have z1 := hB1.size
  clear hown h1 hfb hk e0
  have sb := sumB_bd (listsOf l0).flatten
  obtain ⟨L, hL⟩ : ∃ L, (listsOf l0).flatten = L := ⟨_, rfl⟩
  rw [hL] at sb HF hs1
  have hll := hs1.len
  have HFL := Lib.hid hL
  rw [hL]
  obtain ⟨m, hm⟩ : ∃ m, L.length = m := ⟨_, rfl⟩
  rw [hm] at hs1 ⊢
  clear hm hL hll
  have hff : (sumB L == 65535) = fineB L := by unfold fineB; rw [Bool.eq_iff_iff]; simp
  have cb := cs_bd (a1 + a2)
  go_wp2_with fail
  refine (ref_of hs1 HF.out).mono ?_
  rintro e w' ⟨rfl, rfl⟩
  go_wp2_with fail
  refine (of_any a0 len0 cap0 (listsOf l0) w1 HB.out ((hR.later hB1).mono z1)).mono ?_
  rintro e w2 ⟨rfl, h2⟩
  rw [HFL.out]
  have hB2 := hB1.trans (h2.mono z1)
  have z2 := hB2.size
  have hs2 := hs1.later h2
  clear h2 hs1
  go_wp2_with fail
  refine (check_any a0 len0 cap0 (listsOf l0) w2 HB.out ((hR.later hB2).mono z2)).mono ?_
  rintro e w3 ⟨rfl, h3⟩
  rw [HFL.out]
  have hB3 := hB2.trans (h3.mono z2)
  have z3 := hB3.size
  have hs3 := hs2.later h3
  clear h3 hs2
  go_wp2_with fail
  refine (fine_any hs3 HF.out).mono ?_
  rintro e w4 ⟨rfl, h4⟩
  have hB4 := hB3.trans (h4.mono z3)
  have z4 := hB4.size
  clear h4 hs3
  go_wp2_with fail
  refine (add_any a1 a2 w4 b1 b2).mono ?_
  rintro e w' ⟨rfl, rfl⟩
  go_wp2_with fail
  refine (fold_any (a1 + a2) w4 (by omega)).mono ?_
  rintro e w' ⟨rfl, rfl⟩
  go_wp2_with fail
  refine (known_any w4).mono ?_
  rintro e w5 ⟨rfl, h5⟩
  go_wp2_with fail
  go_ret
  exact ⟨rfl, hB4.trans (h5.mono z4)⟩
end Go.Proofs.Ytdpambnoaagmjaa.sm
