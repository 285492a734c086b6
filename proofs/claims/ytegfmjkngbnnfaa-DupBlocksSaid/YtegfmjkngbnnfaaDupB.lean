/-
  Package dup's laws: blocks that came in; what must come of fixed calls; the walk of DupLooks.
-/
import Derived.Test.YtegfmjkngbnnfaaDupS
import Derived.Test.YtegfmjkngbnnfaaRows
namespace Go.Proofs.Ytegfmjkngbnnfaa.dp
open Go.RowKit aid mem sq sp opn Go.ChangeShapes Go.WideShapes Go.ChangeAt
attribute [local go_sem ↓] Go.wp_at_zero Go.wp_at_succ
set_option linter.unusedVariables false

theorem cells_u32 : Try.prog.cellsOf 22 = 1 := by kernel_rfl
theorem cells_block : Try.prog.cellsOf 42 = 2 := by kernel_rfl
def BkIs (cs : List Value) (q : Bk) : Prop := cs = [.int .u32 q.1, .int .u32 q.2] ∧ BkOk q
theorem wf_u32 {n : Int} (h : (Lit.int .u32 n).wf = true) : 0 ≤ n ∧ n ≤ 4294967295 := by
  have := bounds_u32 h
  exact this
section
variable {H : Type} {enc : TypeId × Value → H} {w : World} {base : Nat}
set_option maxRecDepth 100000 in
theorem block_of (n : Nat) (cs : List Value) (d : DataW H) (p : List MemPlace)
    (h : DataW.trod enc Try.prog w base (fun _ => true) true n 42 cs = some (d, p)) : ∃ q : Bk, BkIs cs q ∧ True := by
  obtain ⟨xs, m, _, hx, hl, hxl, hf⟩ := DataW.trod_struct Try.underlying42 h
  rw [cells_block] at hl
  have h0 := hf 0 _ rfl
  have h1 := hf 1 _ rfl
  match cs, hl, xs, hxl with
  | [c0, c1], _, [x0, x1], _ =>
    simp [cells_u32] at h0 h1
    obtain ⟨k, hk, hk2, hkw⟩ := DataW.trod_int Try.underlying22 h0
    obtain ⟨q, hq, hq2, hqw⟩ := DataW.trod_int Try.underlying22 h1
    injection hk with hk _
    injection hq with hq _
    subst hk hq
    exact ⟨(k, q), ⟨rfl, wf_u32 hkw, wf_u32 hqw⟩, trivial⟩
theorem slb_of_els {a : Option Addr} {len cap : Nat} {l : List Bk} (h : ElA BkIs 2 w a len cap l) : SlB w a len cap l := by
  refine ⟨h.len, h.le, h.most, h.nil, fun h0 => ?_, fun b hb => ?_⟩
  · obtain ⟨b, off, ha, hc⟩ := h.cells h0
    refine ⟨b, off, ha, fun i hi => ?_⟩
    have hil : i < l.length := by rw [h.len]; exact hi
    obtain ⟨cs, ⟨hR, _⟩, _, hj⟩ := hc i hil
    rw [hR] at hj
    have e : l.getD i (0, 0) = l[i] := by simp [List.getD, hil]
    rw [e]
    have j0 := hj 0 (by omega)
    have j1 := hj 1 (by omega)
    rw [← Nat.add_assoc] at j1
    exact ⟨by simpa using j0, by simpa using j1⟩
  · obtain ⟨i, hi, rfl⟩ := List.mem_iff_getElem.1 hb
    obtain ⟨_, _, _, hc⟩ := h.cells (by rw [← h.len]; omega)
    obtain ⟨cs, ⟨_, hok⟩, _⟩ := hc i hi
    exact hok
set_option maxRecDepth 100000 in
theorem open_blocks {a : Option Addr} {len cap : Nat} {d : DataW H} {p : List MemPlace}
    (h : ∃ fuel, DataW.trod enc Try.prog w base (fun _ => true) true fuel 23 [.slice a len cap] = some (d, p)) :
    ∃ l : List Bk, SlB w a len cap l ∧ ((d = .nil ∧ l = []) ∨ ∃ elems rest, d = .slice elems rest ∧ elems.length = l.length) := by
  obtain ⟨l, hl, hd⟩ := open_els (R := BkIs) (D := fun (_ : DataW H) (_ : Bk) => True) Try.underlying23 (by rw [cells_block]; omega) h block_of
  rw [cells_block] at hl
  refine ⟨l, slb_of_els hl, ?_⟩
  rcases hd with h | ⟨el, rest, h1, h2, _⟩
  · exact .inl h
  · exact .inr ⟨el, rest, h1, h2⟩
end
theorem bulk_len {H : Type} : ∀ q : List (DataW H), q.length ≤ Rows.uptoBulkAll q := by
  intro q
  induction q with
  | nil => simp [Rows.uptoBulkAll]
  | cons x q ih =>
    have : 1 ≤ Rows.uptoBulk x := by cases x with
      | lit l => cases l <;> simp [Rows.uptoBulk]
      | _ => simp [Rows.uptoBulk]
    simp only [Rows.uptoBulkAll, List.length_cons]
    omega
theorem bulk_blocks {H : Type} {d0 d1 d2 d : DataW H} {l : List Bk} {r : List (DataW H)} (h : (d = .nil ∧ l = []) ∨ ∃ elems rest, d = .slice elems rest ∧ elems.length = l.length)
    (hk : Rows.uptoSmall H (d0 :: d1 :: d2 :: d :: r) = true) : l.length ≤ 1000000000 := by
  have hb := of_decide_eq_true hk
  simp only [Rows.uptoBulkAll] at hb
  rcases h with ⟨_, rfl⟩ | ⟨els, rest, rfl, hl⟩
  · simp
  · have := bulk_len els
    simp only [Rows.uptoBulk] at hb
    omega

/-- two blocks in a new array -/
theorem slb_two (w : World) (x y : Bk) (hx : BkOk x) (hy : BkOk y) : SlB (w.alloc (.cells #[.int .u32 x.1, .int .u32 x.2, .int .u32 y.1, .int .u32 y.2] 42)) (some ⟨w.heap.size, 0, none⟩) 2 2 [x, y] :=
  ⟨rfl, Nat.le_refl _, by simp [maxLen], (fun h => by cases h), fun _ => ⟨w.heap.size, 0, rfl, fun i hi => by
    rcases (show i = 0 ∨ i = 1 by omega) with rfl | rfl
    · exact ⟨World.cell?_alloc_at _ _ _ _ rfl, World.cell?_alloc_at _ _ _ _ rfl⟩
    · exact ⟨World.cell?_alloc_at _ _ _ _ rfl, World.cell?_alloc_at _ _ _ _ rfl⟩⟩, fun b hb => by
    simp at hb
    rcases hb with rfl | rfl
    · exact hx
    · exact hy⟩
theorem known_td : lookP 100 200 120 [(110, 120), (150, 160)] = ⟨120, true, (110, 120), [(150, 160)], 0⟩ ∧ errP 100 200 120 = 0 := ⟨by rfl, by rfl⟩

set_option maxRecDepth 100000 in
set_option maxHeartbeats 1600000 in
theorem known_any (w : World) : Calls Try.prog 7 #[] w fun e w' => e = .returned (.bool true) ∧ Below w.heap.size w w' := by
  have b1 := bal (w := w) (.cells #[.int .u32 110, .int .u32 120, .int .u32 150, .int .u32 160] 42)
  have hs := slb_two w (110, 120) (150, 160) (by unfold BkOk; decide) (by unfold BkOk; decide)
  have HL := Lib.hid (look_any 100 200 120 _ _ _ _ _ (by omega) (by omega) (by omega) hs (by omega))
  rw [known_td.1, known_td.2] at HL
  have eqg := eq_guard
  have eqb : ∀ w, (Op.equalIn 10000 26 (.agg #[.int .i64 110, .int .i64 120]) (.agg #[.int .i64 110, .int .i64 120])).run Try.prog w = .ok true w := fun w => by
    have := eq_spB (110, 120) (110, 120) w
    simpa using this
  clear hs
  go_enter Try.func7, Try.ntmps7
  go_wp2_with fail
  refine (HL.out).mono ?_
  rintro e w2 ⟨v, rfl, hown, h2⟩
  obtain ⟨a, c, rfl⟩ := own_form hown
  have r3 := td_new 29 w2 ⟨120, true, (110, 120), [(150, 160)], 0⟩ (.slice a 1 c)
  have b3 := (b1.trans (h2.mono b1.size)).trans ((bal (w := w2) (.cells #[.int .i64 120, .bool true, .int .i64 110, .int .i64 120, .slice a 1 c, .int .i64 0] 29)).mono (Nat.le_trans b1.size h2.size))
  have c0 := r3.c0; have c1 := r3.c1; have c2 := r3.c2; have c3 := r3.c3; have c4 := r3.c4; have c5 := r3.c5
  simp only [List.length_singleton] at *
  clear HL hown r3
  go_wp2_with fail
  go_ret
  exact ⟨rfl, b3⟩

/-- both answers in boxes -/
structure BB (w0 : World) (X Y : Nat) (t : Td) (a b : Option Addr) (n m c d : Nat) (w : World) : Prop where
  x : TdAt 29 w X t (.slice a n c)
  y : TdAt 33 w Y t (.slice b m d)
  sx : SlS w a n c t.sacks
  sy : SlS w b m d t.sacks
  below : Below w0.heap.size w0 w
theorem BB.later {w0 : World} {X Y : Nat} {t : Td} {a b : Option Addr} {n m c d : Nat} {w w' : World} (h : BB w0 X Y t a b n m c d w) (hb : Below w.heap.size w w') : BB w0 X Y t a b n m c d w' :=
  ⟨h.x.later hb, h.y.later hb, h.sx.later hb, h.sy.later hb, h.below.trans (hb.mono h.below.size)⟩
theorem BB.all {w0 : World} {X Y : Nat} {t : Td} {a b : Option Addr} {n m c d : Nat} {w : World} (h : BB w0 X Y t a b n m c d w) :
    w.cell? ⟨X, 0, none⟩ = some (.int .i64 t.ack) ∧ w.cell? ⟨X, 1, none⟩ = some (.bool t.isDup) ∧ w.cell? ⟨X, 2, none⟩ = some (.int .i64 t.dup.1) ∧ w.cell? ⟨X, 3, none⟩ = some (.int .i64 t.dup.2) ∧ w.cell? ⟨X, 4, none⟩ = some (.slice a n c) ∧ w.cell? ⟨X, 5, none⟩ = some (.int .i64 t.bad) ∧
    w.cell? ⟨Y, 0, none⟩ = some (.int .i64 t.ack) ∧ w.cell? ⟨Y, 1, none⟩ = some (.bool t.isDup) ∧ w.cell? ⟨Y, 2, none⟩ = some (.int .i64 t.dup.1) ∧ w.cell? ⟨Y, 3, none⟩ = some (.int .i64 t.dup.2) ∧ w.cell? ⟨Y, 4, none⟩ = some (.slice b m d) ∧ w.cell? ⟨Y, 5, none⟩ = some (.int .i64 t.bad) :=
  ⟨h.x.c0, h.x.c1, h.x.c2, h.x.c3, h.x.c4, h.x.c5, h.y.c0, h.y.c1, h.y.c2, h.y.c3, h.y.c4, h.y.c5⟩
/-- what is told lies in a row of one's own -/
theorem own_sl {w : World} {base : Nat} {v : Value} {t : Td} (h : w.ownsRow base 26 2 v t.sacks.length (spCells t.sacks)) : ∃ a c, v = .slice a t.sacks.length c ∧ SlS w a t.sacks.length c t.sacks := by
  obtain ⟨a, c, h1, h2, _⟩ := sls_of_own h
  exact ⟨a, c, h1, h2⟩

set_option maxRecDepth 100000 in
set_option maxHeartbeats 3200000 in
theorem walk_DupLooks (w : World) (una : Int) (hu : -9223372036854775808 ≤ una ∧ una ≤ 9223372036854775807) (nxt : Int) (hn : -9223372036854775808 ≤ nxt ∧ nxt ≤ 9223372036854775807) (num : Int) (hm : 0 ≤ num ∧ num ≤ 4294967295) (a : Option Addr) (n cap : Nat) (l : List Bk) (hl : SlB w a n cap l) (hbulk : l.length ≤ 1000000000) :
    Calls Try.prog 3 #[.int .i64 una, .int .i64 nxt, .int .u32 num, .slice a n cap] w fun e w' => e = .returned (.bool true) ∧ Below w.heap.size w w' := by
  have hlen := hl.len
  have HA := Lib.hid (fun W (hW : Below w.heap.size w W) => look_any una nxt num a n cap l W hu hn hm (hl.later hW) (by omega))
  have HB := Lib.hid (fun W (hW : Below w.heap.size w W) => rlook_any una nxt num a n cap l W hu hn hm (hl.later hW) (by omega))
  generalize lookP una nxt num l = t at *
  generalize errP una nxt num = c at *
  clear hl hlen hbulk
  go_enter Try.func3, Try.ntmps3
  go_wp2_with fail
  refine (known_any _).mono ?_
  rintro e w1 ⟨rfl, h1⟩
  go_wp2_with fail
  refine (HA.out _ h1).mono ?_
  rintro e w2 ⟨v, rfl, hown, h2⟩
  obtain ⟨xa, xc, rfl, hsx⟩ := own_sl hown
  have x3 := td_new 29 w2 t (.slice xa t.sacks.length xc)
  have b3 := bal (w := w2) (.cells #[.int .i64 t.ack, .bool t.isDup, .int .i64 t.dup.1, .int .i64 t.dup.2, .slice xa t.sacks.length xc, .int .i64 t.bad] 29)
  have m3 := (h1.trans (h2.mono h1.size)).trans (b3.mono (Nat.le_trans h1.size h2.size))
  have s3 := hsx.later b3
  clear hown hsx h1 h2 b3
  go_wp2_with fail
  refine (HB.out _ m3).mono ?_
  rintro e w4 ⟨v, rfl, hown, h4⟩
  obtain ⟨ya, yc, rfl, hsy⟩ := own_sl hown
  have y5 := td_new 33 w4 t (.slice ya t.sacks.length yc)
  have b5 := bal (w := w4) (.cells #[.int .i64 t.ack, .bool t.isDup, .int .i64 t.dup.1, .int .i64 t.dup.2, .slice ya t.sacks.length yc, .int .i64 t.bad] 33)
  have hBB : BB w w2.heap.size w4.heap.size t xa ya t.sacks.length t.sacks.length xc yc (w4.alloc (.cells #[.int .i64 t.ack, .bool t.isDup, .int .i64 t.dup.1, .int .i64 t.dup.2, .slice ya t.sacks.length yc, .int .i64 t.bad] 33)) :=
    ⟨(x3.later h4).later b5, y5, (s3.later h4).later b5, hsy.later b5, (m3.trans (h4.mono m3.size)).trans (b5.mono (Nat.le_trans m3.size h4.size))⟩
  clear x3 m3 s3 hown hsy h4 y5 b5 HA HB
  have hcc : (c == c) = true := by simp
  have hcd : decide (c = c) = true := by simp
  go_wp2_with fail
  generalize w4.alloc (.cells #[.int .i64 t.ack, .bool t.isDup, .int .i64 t.dup.1, .int .i64 t.dup.2, .slice ya t.sacks.length yc, .int .i64 t.bad] 33) = W at *
  generalize w2.heap.size = X at *
  generalize w4.heap.size = Y at *
  have B0 := hBB.later (Below.refl _ W).drew
  clear hBB
  go_region_held3 (fun w' => w'.cell? ⟨X, 0, none⟩ = some (.int .i64 t.ack) ∧ w'.cell? ⟨X, 1, none⟩ = some (.bool t.isDup) ∧ w'.cell? ⟨X, 2, none⟩ = some (.int .i64 t.dup.1) ∧ w'.cell? ⟨X, 3, none⟩ = some (.int .i64 t.dup.2) ∧ w'.cell? ⟨X, 4, none⟩ = some (.slice xa t.sacks.length xc) ∧ w'.cell? ⟨X, 5, none⟩ = some (.int .i64 t.bad) ∧
    w'.cell? ⟨Y, 0, none⟩ = some (.int .i64 t.ack) ∧ w'.cell? ⟨Y, 1, none⟩ = some (.bool t.isDup) ∧ w'.cell? ⟨Y, 2, none⟩ = some (.int .i64 t.dup.1) ∧ w'.cell? ⟨Y, 3, none⟩ = some (.int .i64 t.dup.2) ∧ w'.cell? ⟨Y, 4, none⟩ = some (.slice ya t.sacks.length yc) ∧ w'.cell? ⟨Y, 5, none⟩ = some (.int .i64 t.bad))
    (with_reducible first | exact B0.all | exact B1.all | exact B2.all | exact B3.all | go_keep) (first
    | (go_at_call 11; (with_reducible refine (to_any t xa t.sacks.length xc _).mono ?_); rintro e w5 ⟨rfl, h5⟩; have B1 := B0.later h5; clear B0 h5)
    | (go_at_call 10; (with_reducible refine (dsame_any t xa ya t.sacks.length t.sacks.length xc yc _ B1.sx B1.sy).mono ?_); rintro e w6 ⟨rfl, h6⟩; have B2 := B1.later h6; clear B1 h6)
    | (go_at_call 7; (with_reducible refine (known_any _).mono ?_); rintro e w7 ⟨rfl, h7⟩; have B3 := B2.later h7; clear B2 h7))
  all_goals
    go_wp2
    go_ret
    exact ⟨rfl, B3.below⟩
end Go.Proofs.Ytegfmjkngbnnfaa.dp
