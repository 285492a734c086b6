/-
  Several texts in one: BrdZ BrdV BrdO BrdDo BrdEq BrdPl BrdOr
-/
import Derived.Test.YtegbkeichkifnaaProg
import Derived.Test.YtegbkeichkifnaaM8
/-!   Package board: Same.
-/
namespace Go.Proofs.Ytegbkeichkifnaa.bd
open Go.RowKit Go.Shelf aid mem rng sp rn bv
attribute [local go_sem ↓] Go.wp_at_zero Go.wp_at_succ
attribute [local go_sem] Oper.semAt_some
set_option linter.unusedVariables false
set_option linter.unusedSimpArgs false

theorem ptr_ne (x : Nat) (w : World) : (binOp BinOp.eql 26 (Value.pointer none) (Value.pointer (some ⟨x, 0, none⟩))).run Try.prog w = .ok (.bool false) w := by
  kernel_rfl
set_option maxRecDepth 100000 in
set_option maxHeartbeats 4000000 in
theorem bsame_nn (w : World) : Calls Try.prog 22 #[.pointer none, .pointer none] w fun e w' => e = .returned (.bool true) ∧ w = w' := by
  go_enter Try.func22, Try.ntmps22
  go_wp2
  go_ret
  exact ⟨rfl, rfl⟩
set_option maxRecDepth 100000 in
set_option maxHeartbeats 4000000 in
theorem bsame_nx (w : World) (x : Nat) : Calls Try.prog 22 #[.pointer none, .pointer (some ⟨x, 0, none⟩)] w fun e w' => e = .returned (.bool false) ∧ w = w' := by
  have hE := ptr_ne x w
  go_enter Try.func22, Try.ntmps22
  go_wp2
  go_ret
  exact ⟨rfl, rfl⟩
set_option maxRecDepth 100000 in
set_option maxHeartbeats 4000000 in
theorem bsame_xn (w : World) (x : Nat) : Calls Try.prog 22 #[.pointer (some ⟨x, 0, none⟩), .pointer none] w fun e w' => e = .returned (.bool false) ∧ w = w' := by
  go_enter Try.func22, Try.ntmps22
  go_wp2
  go_ret
  exact ⟨rfl, rfl⟩
set_option maxRecDepth 100000 in
set_option maxHeartbeats 4000000 in
theorem bsame_any {w : World} {x y tb ub : Nat} {s : Bs} (h : BdAt w x tb s) (k : BdAt w y ub s) : Calls Try.prog 22 #[.pointer (some ⟨x, 0, none⟩), .pointer (some ⟨y, 0, none⟩)] w (RetB true w) := by
  have HF1 := Lib.hid (flight_any h.o)
  have HF2 := Lib.hid (fun X (hX : Below w.heap.size w X) => flight_any (k.later hX).o)
  have HA1 := Lib.hid (fun X (hX : Below w.heap.size w X) => ball_any hX h.o (fun _ => False) (fun k hk => hk.elim))
  have HA2 := Lib.hid (fun X (hX : Below w.heap.size w X) => ball_any hX k.o (fun _ => False) (fun k hk => hk.elim))
  have l1 := h.ok.len
  have l2 := k.ok.len
  clear h k
  go_enter Try.func22, Try.ntmps22
  go_wp2_with (first
      | (go_at_call 42; (with_reducible refine HF1.out.mono ?_); rintro e w2 ⟨rfl, h2⟩; have H2 := Lib.hid h2; clear h2)
      | (go_at_call 42; (with_reducible refine (HF2.out _ H2.out).mono ?_); rintro e w3 ⟨rfl, h3⟩; have H3 := Lib.hid (H2.out.trans (h3.mono H2.out.size)); clear h3)
      | (go_at_call 47; (with_reducible refine (HA1.out _ H3.out).mono ?_); rintro e w4 ⟨lb, rfl, hs, h4⟩; have H4 := Lib.hid (H3.out.trans (h4.mono H3.out.size)); have HS4 := Lib.hid (collect_any hs eg_all (by omega)); clear h4 hs)
      | (go_at_call 46; (with_reducible refine HS4.out.mono ?_); rintro e w5 ⟨v, rfl, ho, h5⟩; obtain ⟨a1, c1, rfl, hS5, _⟩ := sls_of_own ho; have H5 := Lib.hid (H4.out.trans (h5.mono H4.out.size)); have HR5 := Lib.hid hS5; clear h5 ho hS5)
      | (go_at_call 47; (with_reducible refine (HA2.out _ H5.out).mono ?_); rintro e w6 ⟨lb2, rfl, hs, h6⟩; have H6 := Lib.hid (H5.out.trans (h6.mono H5.out.size)); have HR6 := Lib.hid (HR5.out.later h6); have HS6 := Lib.hid (collect_any hs eg_all (by omega)); clear h6 hs)
      | (go_at_call 46; (with_reducible refine HS6.out.mono ?_); rintro e w7 ⟨v, rfl, ho, h7⟩; obtain ⟨a2, c2, rfl, hS7, _⟩ := sls_of_own ho; have H7 := Lib.hid (H6.out.trans (h7.mono H6.out.size)); have HE := Lib.hid (sequal_any (HR6.out.later h7) hS7); clear h7 ho hS7)
      | (go_at_call 45; (with_reducible refine HE.out.mono ?_); rintro e w8 ⟨rfl, h8⟩; have H8 := Lib.hid (H7.out.trans (h8.mono H7.out.size)); clear h8))
  go_ret
  exact ⟨ret_b (by simp), H8.out⟩
end Go.Proofs.Ytegbkeichkifnaa.bd
/-!   Package board: the law's known; a board that is none.
-/
namespace Go.Proofs.Ytegbkeichkifnaa.bd
open Go.RowKit Go.Shelf aid mem rng sp rn bv
attribute [local go_sem ↓] Go.wp_at_zero Go.wp_at_succ
attribute [local go_sem] Oper.semAt_some
set_option linter.unusedVariables false
set_option linter.unusedSimpArgs false

/-- a board of one's own, made behind a world -/
structure BS (w : World) (x tb : Nat) (s : Bs) (X : World) : Prop where
  bd : BdAt X x tb s
  below : Below w.heap.size w X
  lx : w.heap.size ≤ x
  lt : w.heap.size ≤ tb
theorem BS.later {w X Y : World} {x tb : Nat} {s : Bs} (h : BS w x tb s X) (hb : Below X.heap.size X Y) : BS w x tb s Y := ⟨h.bd.later hb, h.below.trans (hb.mono h.below.size), h.lx, h.lt⟩
theorem BS.put {w X Y : World} {x tb : Nat} {s s' : Bs} (h : BS w x tb s X) (hd : BdAt Y x tb s') (hk : Kept [x, tb] X Y) : BS w x tb s' Y :=
  ⟨hd, h.below.trans (hk.below (B := w.heap.size) (fun k hk' => by simp at hk'; rcases hk' with rfl | rfl; exact h.lx; exact h.lt) h.below.size), h.lx, h.lt⟩
theorem kn1 : sentN (newS 10) 40 = (0, ⟨10, 40, []⟩) := by rfl
theorem kn2 : sackN ⟨10, 40, []⟩ (20, 25) = (5, 0, ⟨10, 40, [(20, 25)]⟩) := by rfl
theorem kn3 : sackN ⟨10, 40, [(20, 25)]⟩ (22, 30) = (5, 0, ⟨10, 40, [(20, 30)]⟩) := by rfl
theorem kn4 : ackN ⟨10, 40, [(20, 30)]⟩ 21 = (10, 0, ⟨21, 40, [(21, 30)]⟩) := by rfl
theorem kn5 : bytesL [((21 : Int), (30 : Int))] = 9 := by rfl
theorem kn6 : highN ⟨21, 40, [(21, 30)]⟩ = 30 := by rfl
set_option maxRecDepth 100000 in
set_option maxHeartbeats 8000000 in
theorem known_any (w : World) : Calls Try.prog 7 #[] w (RetB true w) := by
  have HN := Lib.hid (bnew_ok (u := 10) (by decide) (by decide) w)
  have HS := Lib.hid (fun X x tb (h : BdAt X x tb (newS 10)) => bsent_any h 40 (by decide))
  have HK1 := Lib.hid (fun X x tb (h : BdAt X x tb ⟨10, 40, []⟩) => bsack_any h (20, 25))
  have HK2 := Lib.hid (fun X x tb (h : BdAt X x tb ⟨10, 40, [(20, 25)]⟩) => bsack_any h (22, 30))
  have HA := Lib.hid (fun X x tb (h : BdAt X x tb ⟨10, 40, [(20, 30)]⟩) => back_any' h 21)
  have HB := Lib.hid (fun X x tb (h : BdAt X x tb ⟨21, 40, [(21, 30)]⟩) => bbytes_any h.o)
  have HH := Lib.hid (fun X x tb (h : BdAt X x tb ⟨21, 40, [(21, 30)]⟩) => high_any h.o)
  simp only [kn1] at HS
  simp only [kn2] at HK1
  simp only [kn3] at HK2
  simp only [kn4] at HA
  simp only [kn5] at HB
  simp only [kn6] at HH
  go_enter Try.func7, Try.ntmps7
  go_wp2_with (first
    | (go_at_call 8; (with_reducible refine HN.out.mono ?_); rintro e w2 ⟨x, tb, rfl, hd, hb, h1, h2⟩; have S2 : Hid (BS w x tb (newS 10) w2) := Lib.hid ⟨hd, hb, h1, h2⟩; clear hd hb h1 h2)
    | (go_at_call 15; (with_reducible refine (HS.out _ _ _ S2.out.bd).mono ?_); rintro e w3 ⟨rfl, hd, hk⟩; have S3 := Lib.hid (S2.out.put hd hk); clear hd hk)
    | (go_at_call 17; (with_reducible refine (HK1.out _ _ _ S3.out.bd).mono ?_); rintro e w4 ⟨rfl, hd, hk⟩; have S4 := Lib.hid (S3.out.put hd hk); clear hd hk)
    | (go_at_call 17; (with_reducible refine (HK2.out _ _ _ S4.out.bd).mono ?_); rintro e w5 ⟨rfl, hd, hk⟩; have S5 := Lib.hid (S4.out.put hd hk); clear hd hk)
    | (go_at_call 16; (with_reducible refine (HA.out _ _ _ S5.out.bd).mono ?_); rintro e w6 ⟨rfl, hd, hk⟩; have S6 := Lib.hid (S5.out.put hd hk); clear hd hk)
    | (go_at_call 19; (with_reducible refine (HB.out _ _ _ S6.out.bd).mono ?_); rintro e w7 ⟨rfl, h7⟩; have S7 := Lib.hid (S6.out.later h7); clear h7)
    | (go_at_call 21; (with_reducible refine (HH.out _ _ _ S7.out.bd).mono ?_); rintro e w8 ⟨rfl, h8⟩; have S8 := Lib.hid (S7.out.later h8); clear h8))
  go_ret
  exact ⟨ret_b (by simp), S8.out.below⟩
end Go.Proofs.Ytegbkeichkifnaa.bd
/-!   Structs that came in, and slices of them (written by gen_open.py).
-/
namespace Go.Proofs.Ytegbkeichkifnaa.bd
open Go.RowKit aid mem opn Go.ChangeShapes Go.WideShapes Go.ChangeAt
set_option linter.unusedVariables false
set_option linter.unusedSimpArgs false

structure OpV where
  kind : Int
  tt : Int
  s : Int × Int
instance : Inhabited OpV := ⟨⟨0, 0, (0, 0)⟩⟩
theorem cells_i64 : Try.prog.cellsOf 3 = 1 := by kernel_rfl
theorem cells_u8 : Try.prog.cellsOf 5 = 1 := by kernel_rfl
theorem cells_spn : Try.prog.cellsOf 24 = 2 := by kernel_rfl
theorem cells_op : Try.prog.cellsOf 36 = 4 := by kernel_rfl
def OpOk (q : OpV) : Prop := (0 ≤ q.kind ∧ q.kind ≤ 255) ∧ (-9223372036854775808 ≤ q.tt ∧ q.tt ≤ 9223372036854775807) ∧ (-9223372036854775808 ≤ q.s.1 ∧ q.s.1 ≤ 9223372036854775807 ∧ -9223372036854775808 ≤ q.s.2 ∧ q.s.2 ≤ 9223372036854775807)
def OpIs (cs : List Value) (q : OpV) : Prop := cs = [.int .u8 q.kind, .int .i64 q.tt, .int .i64 q.s.1, .int .i64 q.s.2] ∧ OpOk q
/-- they lie where the slice leads -/
structure OpA (w : World) (a : Option Addr) (n cap : Nat) (l : List OpV) : Prop where
  len : l.length = n
  le : n ≤ cap
  most : cap ≤ maxLen
  cells : 0 < n → ∃ b off, a = some ⟨b, off, none⟩ ∧ ∀ i, i < n → w.cell? ⟨b, off + i * 4, none⟩ = some (.int .u8 (l.getD i default).kind) ∧ w.cell? ⟨b, off + i * 4 + 1, none⟩ = some (.int .i64 (l.getD i default).tt) ∧ w.cell? ⟨b, off + i * 4 + 2, none⟩ = some (.int .i64 (l.getD i default).s.1) ∧ w.cell? ⟨b, off + i * 4 + 3, none⟩ = some (.int .i64 (l.getD i default).s.2) ∧ OpOk (l.getD i default)
section
variable {H : Type} {enc : TypeId × Value → H} {w : World} {base : Nat}
set_option maxRecDepth 100000 in
theorem span_in (n : Nat) (cs : List Value) (d : DataW H) (p : List MemPlace)
    (h : DataW.trod enc Try.prog w base (fun _ => true) true n 24 cs = some (d, p)) : ∃ q : Int × Int, cs = [.int .i64 q.1, .int .i64 q.2] ∧ (-9223372036854775808 ≤ q.1 ∧ q.1 ≤ 9223372036854775807 ∧ -9223372036854775808 ≤ q.2 ∧ q.2 ≤ 9223372036854775807) := by
  obtain ⟨xs, m, _, hx, hl, hxl, hf⟩ := DataW.trod_struct Try.underlying24 h
  rw [cells_spn] at hl
  have h0 := hf 0 _ rfl
  have h1 := hf 1 _ rfl
  match cs, hl, xs, hxl with
  | [c0, c1], _, [x0, x1], _ =>
    simp [cells_i64] at h0 h1
    obtain ⟨k, hk, hk2, hkw⟩ := DataW.trod_int Try.underlying3 h0
    obtain ⟨q, hq, hq2, hqw⟩ := DataW.trod_int Try.underlying3 h1
    injection hk with hk _
    injection hq with hq _
    subst hk hq
    exact ⟨(k, q), rfl, (bounds_i64 hkw).1, (bounds_i64 hkw).2, (bounds_i64 hqw).1, (bounds_i64 hqw).2⟩
set_option maxRecDepth 100000 in
theorem op_of (n : Nat) (cs : List Value) (d : DataW H) (p : List MemPlace)
    (h : DataW.trod enc Try.prog w base (fun _ => true) true n 36 cs = some (d, p)) : ∃ q : OpV, OpIs cs q ∧ True := by
  obtain ⟨xs, m, _, hx, hl, hxl, hf⟩ := DataW.trod_struct Try.underlying36 h
  rw [cells_op] at hl
  have h0 := hf 0 _ rfl
  have h1 := hf 1 _ rfl
  have h2 := hf 2 _ rfl
  match cs, hl, xs, hxl with
  | [c0, c1, c2, c3], _, [x0, x1, x2], _ =>
    simp [cells_i64, cells_u8, cells_spn] at h0 h1 h2
    obtain ⟨v0, hv0, _, hw0⟩ := DataW.trod_int Try.underlying5 h0
    injection hv0 with hv0 _
    obtain ⟨v1, hv1, _, hw1⟩ := DataW.trod_int Try.underlying3 h1
    injection hv1 with hv1 _
    obtain ⟨v2, hv2, hb2⟩ := span_in _ _ _ _ h2
    injection hv2 with hv2a hv2
    injection hv2 with hv2b _
    subst hv0 hv1 hv2a hv2b
    exact ⟨⟨v0, v1, v2⟩, ⟨rfl, bounds_u8 hw0, bounds_i64 hw1, hb2⟩, trivial⟩
theorem opa_of_els {a : Option Addr} {len cap : Nat} {l : List OpV} (h : ElA OpIs 4 w a len cap l) : OpA w a len cap l := by
  refine ⟨h.len, h.le, h.most, fun h0 => ?_⟩
  obtain ⟨b, off, ha, hc⟩ := h.cells h0
  refine ⟨b, off, ha, fun i hi => ?_⟩
  have hil : i < l.length := by rw [h.len]; exact hi
  obtain ⟨cs, hR, _, hj⟩ := hc i hil
  have hg : l.getD i default = l[i] := by simp [List.getD, hil]
  obtain ⟨rfl, hok⟩ := hR
  rw [hg]
  have h0 := hj 0 (by omega)
  have h1 := hj 1 (by omega)
  have h2 := hj 2 (by omega)
  have h3 := hj 3 (by omega)
  exact ⟨by simpa using h0, by simpa [Nat.add_assoc] using h1, by simpa [Nat.add_assoc] using h2, by simpa [Nat.add_assoc] using h3, hok⟩
theorem open_ops {a : Option Addr} {len cap : Nat} {d : DataW H} {p : List MemPlace}
    (h : ∃ fuel, DataW.trod enc Try.prog w base (fun _ => true) true fuel 22 [.slice a len cap] = some (d, p)) :
    ∃ l : List OpV, OpA w a len cap l ∧ True := by
  obtain ⟨l, hl, _⟩ := open_els (R := OpIs) (D := fun _ _ => True) Try.underlying22 (by rw [cells_op]; omega) h op_of
  rw [cells_op] at hl
  exact ⟨l, opa_of_els hl, trivial⟩
set_option maxRecDepth 100000 in
theorem open_op {b0 : Nat} {v : Value} {d : DataW H} {p : List MemPlace} (hv : Value.okWide Try.prog w .any b0 36 v)
    (hk : DataW.Trod enc Try.prog w base (fun _ => true) true 36 v d p) : ∃ s : {q : OpV // OpOk q}, v = .agg #[.int .u8 s.1.kind, .int .i64 s.1.tt, .int .i64 s.1.s.1, .int .i64 s.1.s.2] := by
  obtain ⟨cs, rfl, hsz⟩ := okWide_struct Try.underlying36 hv
  obtain ⟨fuel, h⟩ := hk
  obtain ⟨q, ⟨hq, hok⟩, _⟩ := op_of fuel _ d p h
  have : cs = #[.int .u8 q.kind, .int .i64 q.tt, .int .i64 q.s.1, .int .i64 q.s.2] := by
    apply Array.toList_inj.1
    simpa [Value.cells] using hq
  subst this
  exact ⟨⟨q, hok⟩, rfl⟩
end
end Go.Proofs.Ytegbkeichkifnaa.bd
/-!   Layer 9's does: an operation with both boards.
-/
namespace Go.Proofs.Ytegbkeichkifnaa.bd
open Go.RowKit Go.Shelf aid mem rng sp rn bv
attribute [local go_sem ↓] Go.wp_at_zero Go.wp_at_succ
attribute [local go_sem] Oper.semAt_some
set_option linter.unusedVariables false
set_option linter.unusedSimpArgs false

abbrev opC (s : OpV) : Array Value := #[.int .u8 s.kind, .int .i64 s.tt, .int .i64 s.s.1, .int .i64 s.s.2]
abbrev opO (s : OpV) : Obj := .cells (opC s) 36
abbrev OpAt (b : Nat) (s : OpV) (w' : World) : Prop := w'.cell? ⟨b, 0, none⟩ = some (.int .u8 s.kind) ∧ w'.cell? ⟨b, 1, none⟩ = some (.int .i64 s.tt) ∧ w'.cell? ⟨b, 2, none⟩ = some (.int .i64 s.s.1) ∧ w'.cell? ⟨b, 3, none⟩ = some (.int .i64 s.s.2)
theorem op_cs {w : World} {b : Nat} {s : OpV} (h : w.heap[b]? = some (opO s)) : OpAt b s w := ⟨cofr h 0 _ rfl, cofr h 1 _ rfl, cofr h 2 _ rfl, cofr h 3 _ rfl⟩
theorem TL.otherT {w w' : World} {b x : Nat} {l : List Sp} {cs : Array Value} {T : TypeId} (h : TL w b l) (hx : w.heap[x]? = some (.cells cs T (0, 0))) (hT : T ≠ 94 ∧ T ≠ 100) (hk : Kept [x] w w') : TL w' b l := by
  obtain ⟨t, ⟨q, h1, h2⟩, h3⟩ := h
  have key : ∀ (k : Nat) (cs' : Array Value) (ty : TypeId), ty ≠ T → w.heap[k]? = some (.cells cs' ty (0, 0)) → w'.heap[k]? = w.heap[k]? := fun k cs' ty hty hk' => by
    refine hk.block k (lt_of_block hk') (fun e => ?_)
    simp only [List.mem_singleton] at e
    subst e
    rw [hx] at hk'
    injection hk' with hk'
    injection hk' with _ hk' _
    exact hty hk'.symm
  exact ⟨t, ⟨q, (key b _ _ (Ne.symm hT.1) h1).trans h1, h2.keepT (fun x cs hx => key x cs _ (Ne.symm hT.2) hx)⟩, h3⟩
/-- a board lies as it lay when a block of another kind is written -/
theorem BdAt.otherT {w w' : World} {x tb z : Nat} {s : Bs} {cs : Array Value} {T : TypeId} (h : BdAt w x tb s) (hz : w.heap[z]? = some (.cells cs T (0, 0))) (hT : T ≠ 94 ∧ T ≠ 100) (hB : T ≠ 59) (hk : Kept [z] w w') : BdAt w' x tb s :=
  ⟨hk.heap (fun e => by
    simp only [List.mem_singleton] at e
    subst e
    have := h.cel
    rw [hz] at this
    injection this with this
    injection this with _ this _
    exact hB this) h.cel, h.tl.otherT hz hT hk, h.ok⟩
/-- a block of another kind is none of a board's -/
theorem BdAt.typ {w : World} {x tb z : Nat} {s : Bs} {cs : Array Value} {T : TypeId} (h : BdAt w x tb s) (hz : w.heap[z]? = some (.cells cs T (0, 0))) (hT : T ≠ 94 ∧ T ≠ 100) (hB : T ≠ 59) : z ∉ [x, tb] := by
  intro e
  simp only [List.mem_cons, List.not_mem_nil, or_false] at e
  rcases e with rfl | rfl
  · have := h.cel
    rw [hz] at this
    injection this with this
    injection this with _ this _
    exact hB this
  · obtain ⟨t, ⟨q, h1, h2⟩, h3⟩ := h.tl
    rw [hz] at h1
    injection h1 with h1
    injection h1 with _ h1 _
    exact hT.1 h1
theorem ntR : ((32 : TypeId) ≠ 94 ∧ (32 : TypeId) ≠ 100) ∧ (32 : TypeId) ≠ 59 := by decide
theorem ntO : ((36 : TypeId) ≠ 94 ∧ (36 : TypeId) ≠ 100) ∧ (36 : TypeId) ≠ 59 := by decide
theorem BdAt.typR {w : World} {x tb z n cap : Nat} {s y : Bs} {a : Option Addr} (h : BdAt w x tb s) (hz : w.heap[z]? = some (rO y a n cap)) : z ∉ [x, tb] := h.typ hz ntR.1 ntR.2
/-- a row lies apart from blocks -/
def Apt (a : Option Addr) (n : Nat) (S : List Nat) : Prop := ∀ z, a = some z → 0 < n → z.block ∉ S
/-- the boxes of does, the board, the document's row -/
structure E0 (w : World) (x tb : Nat) (s0 : Bs) (a0 : Option Addr) (n0 c0 : Nat) (o : OpV) (s : Bs) (y : Bs) (a : Option Addr) (n cap : Nat) (W : World) : Prop where
  bd : BdAt W x tb s
  b0 : W.heap[w.heap.size]? = some (rO s0 a0 n0 c0)
  op : W.heap[w.heap.size + 1]? = some (opO o)
  rs : W.heap[w.heap.size + 2]? = some (rO Bs.zero none 0 0)
  row : SlS W a n cap y.l
  rn : Apt a n [x, tb, w.heap.size + 2]
  fr : Frm w a0 n0 a n
  lt : x < w.heap.size ∧ tb < w.heap.size
  kept : Kept [x, tb] w W
section
variable {w W W' : World} {x tb m : Nat} {s0 s s' y y' : Bs} {a0 a a' : Option Addr} {n0 c0 n cap n' cap' : Nat} {o : OpV}
theorem E0.later (h : E0 w x tb s0 a0 n0 c0 o s y a n cap W) (hb : Below W.heap.size W W') : E0 w x tb s0 a0 n0 c0 o s y a n cap W' :=
  ⟨h.bd.later hb, (hb.block _ (lt_of_block h.b0)).trans h.b0, (hb.block _ (lt_of_block h.op)).trans h.op, (hb.block _ (lt_of_block h.rs)).trans h.rs, h.row.later hb, h.rn, h.fr, h.lt, h.kept.trans (Kept.of_below hb (Nat.le_refl _) []) (by simp)⟩
/-- another row, by a call of the document's -/
theorem E0.row2 (h : E0 w x tb s0 a0 n0 c0 o s y a n cap W) (hr : SlS W' a' n' cap' y'.l) (hb : Below W.heap.size W W') (hf : Frm W a n a' n') : E0 w x tb s0 a0 n0 c0 o s y' a' n' cap' W' := by
  have hl := h.later hb
  have h1 := lt_of_block h.rs
  have h2 := h.lt
  have h3 := h.kept.size
  refine ⟨hl.bd, hl.b0, hl.op, hl.rs, hr, fun z hz h0 => ?_, fun z hz h0 => ?_, h.lt, hl.kept⟩
  · rcases hf z hz h0 with ⟨e1, e2⟩ | e
    · exact h.rn z e1 e2
    · simp only [List.mem_cons, List.not_mem_nil, or_false]; omega
  · rcases hf z hz h0 with ⟨e1, e2⟩ | e
    · exact h.fr z e1 e2
    · exact .inr (by omega)
theorem E0.wrote (h : E0 w x tb s0 a0 n0 c0 o s y a n cap W) (hd : BdAt W' x tb s') (hk : Kept [x, tb] W W') : E0 w x tb s0 a0 n0 c0 o s' y a n cap W' :=
  ⟨hd, hk.heap (h.bd.typR h.b0) h.b0, hk.heap (h.bd.typ h.op ntO.1 ntO.2) h.op, hk.heap (h.bd.typR h.rs) h.rs, h.row.keep hk (fun z hz h0 e => h.rn z hz h0 (by simp only [List.mem_cons, List.not_mem_nil, or_false] at e ⊢; rcases e with e | e <;> simp [e])), h.rn, h.fr, h.lt, h.kept.trans hk (fun b hb => .inl hb)⟩
/-- the end -/
def FinD (w : World) (x tb : Nat) (a0 : Option Addr) (n0 : Nat) (s : Bs) (a : Option Addr) (n cap : Nat) (W : World) : Prop :=
  BdAt W x tb s ∧ SlS W a n cap s.l ∧ Apt a n [x, tb] ∧ Kept [x, tb] w W ∧ Frm w a0 n0 a n
theorem E0.end_ (h : E0 w x tb s0 a0 n0 c0 o s s a n cap W) : (put3 (w.heap.size + 2) s a n cap W).heap[w.heap.size + 2]? = some (rO s a n cap) ∧ FinD w x tb a0 n0 s a n cap (put3 (w.heap.size + 2) s a n cap W) := by
  have kk := put3_kept (w.heap.size + 2) s a n cap W
  refine ⟨put3_at h.rs s a n cap, h.bd.otherT h.rs ntR.1 ntR.2 kk, h.row.keep kk (fun z hz h0 e => h.rn z hz h0 (by simp only [List.mem_cons, List.not_mem_nil, or_false] at e ⊢; simp [e])), fun z hz h0 e => h.rn z hz h0 (by simp only [List.mem_cons, List.not_mem_nil, or_false] at e ⊢; rcases e with e | e <;> simp [e]), h.kept.trans kk (fun b hb => .inr (by simp at hb; omega)), h.fr⟩
/-- and the box of what the document tells -/
structure E4 (w : World) (x tb : Nat) (s0 : Bs) (a0 : Option Addr) (n0 c0 : Nat) (o : OpV) (s : Bs) (m : Nat) (y : Bs) (a : Option Addr) (n cap : Nat) (W : World) : Prop where
  e : E0 w x tb s0 a0 n0 c0 o s y a n cap W
  bm : W.heap[m]? = some (rO y a n cap)
  ml : w.heap.size + 2 < m
theorem E4.later (h : E4 w x tb s0 a0 n0 c0 o s m y a n cap W) (hb : Below W.heap.size W W') : E4 w x tb s0 a0 n0 c0 o s m y a n cap W' := ⟨h.e.later hb, (hb.block _ (lt_of_block h.bm)).trans h.bm, h.ml⟩
theorem E4.drew (h : E4 w x tb s0 a0 n0 c0 o s m y a n cap W) : E4 w x tb s0 a0 n0 c0 o s m y a n cap W.drew := h.later (Below.refl _ _).drew
theorem E4.wrote (h : E4 w x tb s0 a0 n0 c0 o s m y a n cap W) (hd : BdAt W' x tb s') (hk : Kept [x, tb] W W') : E4 w x tb s0 a0 n0 c0 o s' m y a n cap W' := ⟨h.e.wrote hd hk, hk.heap (h.e.bd.typR h.bm) h.bm, h.ml⟩
theorem E0.alloc (h : E0 w x tb s0 a0 n0 c0 o s y a n cap W) : E4 w x tb s0 a0 n0 c0 o s W.heap.size y a n cap (W.alloc (rO y a n cap)) := ⟨h.later (bal _), heap_alloc_new _ _, lt_of_block h.rs⟩
/-- the answer's box is written -/
theorem E4.put (h : E4 w x tb s0 a0 n0 c0 o s m y a n cap W) : (put3 (w.heap.size + 2) y a n cap W).heap[m]? = some (rO y a n cap) ∧ (put3 (w.heap.size + 2) y a n cap W).heap[w.heap.size + 1]? = some (opO o) := by
  have kk := put3_kept (w.heap.size + 2) y a n cap W
  have := h.ml
  exact ⟨kk.heap (by simp; omega) h.bm, kk.heap (by simp) h.e.op⟩
end
theorem e0_new {w : World} {x tb : Nat} {s : Bs} {a : Option Addr} {n cap : Nat} (h : BdAt w x tb s) (hr : SlS w a n cap s.l) (hn : Apt a n [x, tb]) (o : OpV) :
    E0 w x tb s a n cap o s s a n cap (((w.alloc (rO s a n cap)).alloc (opO o)).alloc zO) := by
  have b1 := bal (w := w) (rO s a n cap)
  have y1 := heap_alloc_new w (rO s a n cap)
  have z1 : (w.alloc (rO s a n cap)).heap.size = w.heap.size + 1 := by simp
  have h1 := h.later b1
  have hr1 := hr.later b1
  have hlt := h.lt
  have hl := SlS.lt hr
  generalize w.alloc (rO s a n cap) = w1 at *
  have b2 := bal (w := w1) (opO o)
  have y2 := heap_alloc_new w1 (opO o)
  have z2 : (w1.alloc (opO o)).heap.size = w.heap.size + 2 := by simp [z1]
  rw [z1] at y2
  have h2 := h1.later b2
  have hr2 := hr1.later b2
  have y3 := (b2.block _ (lt_of_block y1)).trans y1
  have bb := b1.trans (b2.mono b1.size)
  generalize w1.alloc (opO o) = w2 at *
  have b3 := bal (w := w2) zO
  have y4 := heap_alloc_new w2 zO
  rw [z2] at y4
  refine ⟨h2.later b3, (b3.block _ (lt_of_block y3)).trans y3, (b3.block _ (lt_of_block y2)).trans y2, y4, hr2.later b3, fun z hz h0 => ?_, Frm.refl _ _ _, hlt, Kept.of_below (bb.trans (b3.mono bb.size)) (Nat.le_refl _) _⟩
  have q := hn z hz h0
  have q2 := hl z hz h0
  simp only [List.mem_cons, List.not_mem_nil, or_false] at q ⊢
  omega
def stp (s : Bs) (o : OpV) : Int × Bs := if o.kind % 4 = 0 then (0, (sentN s o.tt).2) else if o.kind % 4 = 1 then ((ackN s o.tt).1, (ackN s o.tt).2.2) else ((sackN s o.s).1, (sackN s o.s).2.2)
theorem stp_ok {s : Bs} (h : BOk s) (o : OpV) : BOk (stp s o).2 := by
  unfold stp
  split
  · exact sent_ok h _
  split
  · exact ack_ok h _
  · exact sack_ok h _
def DoesP (w : World) (x tb : Nat) (a0 : Option Addr) (n0 : Nat) (s : Int × Bs) (e : Ending) (w' : World) : Prop := ∃ a n cap, e = .returned (.tuple #[rV s.2 a n cap, .int .i64 s.1, .bool true]) ∧ FinD w x tb a0 n0 s.2 a n cap w'
abbrev S7 (N m : Nat) (y : Bs) (a : Option Addr) (n cap : Nat) (o : OpV) (W : World) : Prop := W.cell? ⟨m, 0, none⟩ = some (.int .i64 y.una) ∧ W.cell? ⟨m, 1, none⟩ = some (.int .i64 y.nxt) ∧ W.cell? ⟨m, 2, none⟩ = some (.slice a n cap) ∧ W.cell? ⟨N, 1, none⟩ = some (.int .i64 o.tt) ∧ W.cell? ⟨N, 2, none⟩ = some (.int .i64 o.s.1) ∧ W.cell? ⟨N, 3, none⟩ = some (.int .i64 o.s.2)
theorem s7_of {N m : Nat} {y : Bs} {a : Option Addr} {n cap : Nat} {o : OpV} {W : World} (h1 : W.heap[m]? = some (rO y a n cap)) (h2 : W.heap[N]? = some (opO o)) : S7 N m y a n cap o W := by
  obtain ⟨r0, r1, r2⟩ := st_of h1
  obtain ⟨o0, o1, o2, o3⟩ := op_cs h2
  exact ⟨r0, r1, r2, o1, o2, o3⟩
set_option maxRecDepth 100000 in
set_option maxHeartbeats 4000000 in
theorem does_sent {w : World} {x tb : Nat} {s : Bs} {a : Option Addr} {n cap : Nat} (h : BdAt w x tb s) (hr : SlS w a n cap s.l) (hn : Apt a n [x, tb]) {o : OpV} (hk0 : 0 ≤ o.kind ∧ o.kind ≤ 255) (ht : -9223372036854775808 ≤ o.tt ∧ o.tt ≤ 9223372036854775807) (hk : o.kind % 4 = 0) :
    Calls Try.prog 9 #[.pointer (some ⟨x, 0, none⟩), rV s a n cap, .agg (opC o)] w (DoesP w x tb a n (stp s o)) := by
  have HD := Lib.hid (e0_new h hr hn o)
  obtain ⟨k0, k1⟩ := hk0
  have HS : Hid (stp s o = (0, (sentN s o.tt).2)) := Lib.hid (by unfold stp; rw [if_pos hk])
  rw [HS.out]
  have HO := Lib.hid h.ok
  have HRC := Lib.hid (fun W (q : SlS W a n cap s.l) => rsent_any q HO.out o.tt ht)
  have HPC := Lib.hid (fun W (q : BdAt W x tb s) => bsent_any q o.tt ht)
  clear h hr hn HS ht
  unfold RetA at HRC
  generalize sentN s o.tt = r at *
  obtain ⟨ev, y⟩ := r
  dsimp only at HRC HPC ⊢
  obtain ⟨o0, o1, o2, o3⟩ := op_cs HD.out.op
  obtain ⟨r0, r1, r2⟩ := st_of HD.out.b0
  go_enter Try.func9, Try.ntmps9
  go_wp2_with (go_at_call 27; go_must (with_reducible refine (HRC.out _ HD.out.row).mono ?_); rintro e w1 ⟨a', n', cap', rfl, q1, q2, q3⟩)
  have RR := ((HD.out.row2 (y' := y) q1 q2 q3).alloc).drew
  clear q1 q2 q3 HD o0 o1 o2 o3 r0 r1 r2
  generalize hm : w1.heap.size = m at *
  generalize w1.alloc (rO y a' n' cap') = W1 at *
  have P0 := s7_of RR.bm RR.e.op
  go_region_held3 (fun W => S7 (w.heap.size + 1) m y a' n' cap' o W) (first | with_reducible exact P3 | with_reducible exact P1 | with_reducible exact P0 | go_keep)
    ((go_at_call 15; (with_reducible refine (HPC.out _ RR.e.bd).mono ?_); rintro e w2 ⟨rfl, hd, hk2⟩; have R1 := RR.wrote hd hk2; clear RR hd hk2; have HE := Lib.hid R1.e.end_; have P1 := s7_of R1.bm R1.e.op; have P3 := s7_of R1.put.1 R1.put.2; obtain ⟨z0, z1, z2⟩ := st_of R1.e.rs; obtain ⟨f0, f1, f2⟩ := fz_of R1.e.rs))
  obtain ⟨y0, y1, y2⟩ := st_of HE.out.1
  clear P1 P3 z0 z1 z2 f0 f1 f2 P0 R1
  go_wp2_with fail
  exact bodyPost_ret (v := .tuple #[rV y a' n' cap', .int .i64 0, .bool true]) (by simp [results, Try.results9, go_sem, y0, y1, y2]) rfl ⟨a', n', cap', rfl, HE.out.2⟩
set_option maxRecDepth 100000 in
set_option maxHeartbeats 4000000 in
theorem does_ack {w : World} {x tb : Nat} {s : Bs} {a : Option Addr} {n cap : Nat} (h : BdAt w x tb s) (hr : SlS w a n cap s.l) (hn : Apt a n [x, tb]) {o : OpV} (hk0 : 0 ≤ o.kind ∧ o.kind ≤ 255) (hk : o.kind % 4 = 1) :
    Calls Try.prog 9 #[.pointer (some ⟨x, 0, none⟩), rV s a n cap, .agg (opC o)] w (DoesP w x tb a n (stp s o)) := by
  have HD := Lib.hid (e0_new h hr hn o)
  obtain ⟨k0, k1⟩ := hk0
  have HS : Hid (stp s o = ((ackN s o.tt).1, (ackN s o.tt).2.2)) := Lib.hid (by unfold stp; rw [if_neg (by omega), if_pos hk])
  rw [HS.out]
  have HO := Lib.hid h.ok
  have HRC := Lib.hid (fun W (q : SlS W a n cap s.l) => rback_any q HO.out o.tt)
  have HPC := Lib.hid (fun W (q : BdAt W x tb s) => back_any' q o.tt)
  clear h hr hn HS
  unfold RetA2 at HRC
  generalize ackN s o.tt = r at *
  obtain ⟨cnt, ev, y⟩ := r
  dsimp only at HRC HPC ⊢
  obtain ⟨o0, o1, o2, o3⟩ := op_cs HD.out.op
  obtain ⟨r0, r1, r2⟩ := st_of HD.out.b0
  go_enter Try.func9, Try.ntmps9
  go_upto_region 7 with (go_at_call 28; go_must (with_reducible refine (HRC.out _ HD.out.row).mono ?_); rintro e w1 ⟨a', n', cap', rfl, q1, q2, q3⟩; have RR := (HD.out.row2 (y' := y) q1 q2 q3).alloc)
  clear q1 q2 q3 HD o0 o1 o2 o3 r0 r1 r2
  generalize hm : w1.heap.size = m at *
  generalize w1.alloc (rO y a' n' cap') = W1 at *
  obtain ⟨p0, p1, p2, p3, p4, p5⟩ := s7_of RR.bm RR.e.op
  go_upto_region 8 with (go_at_call 16; (with_reducible refine (HPC.out _ RR.e.bd).mono ?_); rintro e w2 ⟨rfl, hd, hk2⟩; have R1 := RR.wrote hd hk2; clear RR hd hk2 p0 p1 p2 p3 p4 p5; have HE := Lib.hid R1.e.end_; obtain ⟨p0, p1, p2, p3, p4, p5⟩ := s7_of R1.bm R1.e.op; obtain ⟨z0, z1, z2⟩ := st_of R1.e.rs; obtain ⟨f0, f1, f2⟩ := fz_of R1.e.rs)
  obtain ⟨y0, y1, y2⟩ := st_of HE.out.1
  clear R1
  go_wp2_with fail
  exact bodyPost_ret (v := .tuple #[rV y a' n' cap', .int .i64 cnt, .bool true]) (by simp [results, Try.results9, go_sem, y0, y1, y2]) rfl ⟨a', n', cap', rfl, HE.out.2⟩
set_option maxRecDepth 100000 in
set_option maxHeartbeats 4000000 in
theorem does_sack {w : World} {x tb : Nat} {s : Bs} {a : Option Addr} {n cap : Nat} (h : BdAt w x tb s) (hr : SlS w a n cap s.l) (hn : Apt a n [x, tb]) {o : OpV} (hk0 : 0 ≤ o.kind ∧ o.kind ≤ 255) (hk : ¬ o.kind % 4 = 0) (hk' : ¬ o.kind % 4 = 1) :
    Calls Try.prog 9 #[.pointer (some ⟨x, 0, none⟩), rV s a n cap, .agg (opC o)] w (DoesP w x tb a n (stp s o)) := by
  have HD := Lib.hid (e0_new h hr hn o)
  obtain ⟨k0, k1⟩ := hk0
  have HS : Hid (stp s o = ((sackN s o.s).1, (sackN s o.s).2.2)) := Lib.hid (by unfold stp; rw [if_neg hk, if_neg hk'])
  rw [HS.out]
  have HO := Lib.hid h.ok
  have HRC := Lib.hid (fun W (q : SlS W a n cap s.l) => rbsack_any q HO.out o.s)
  have HPC := Lib.hid (fun W (q : BdAt W x tb s) => bsack_any q o.s)
  clear h hr hn HS
  unfold RetA2 at HRC
  generalize sackN s o.s = r at *
  obtain ⟨cnt, ev, y⟩ := r
  dsimp only at HRC HPC ⊢
  obtain ⟨o0, o1, o2, o3⟩ := op_cs HD.out.op
  obtain ⟨r0, r1, r2⟩ := st_of HD.out.b0
  go_enter Try.func9, Try.ntmps9
  go_upto_region 10 with (go_at_call 29; go_must (with_reducible refine (HRC.out _ HD.out.row).mono ?_); rintro e w1 ⟨a', n', cap', rfl, q1, q2, q3⟩; have RR := (HD.out.row2 (y' := y) q1 q2 q3).alloc)
  clear q1 q2 q3 HD o0 o1 o2 o3 r0 r1 r2
  generalize hm : w1.heap.size = m at *
  generalize w1.alloc (rO y a' n' cap') = W1 at *
  obtain ⟨p0, p1, p2, p3, p4, p5⟩ := s7_of RR.bm RR.e.op
  go_upto_region 11 with (go_at_call 17; (with_reducible refine (HPC.out _ RR.e.bd).mono ?_); rintro e w2 ⟨rfl, hd, hk2⟩; have R1 := RR.wrote hd hk2; clear RR hd hk2 p0 p1 p2 p3 p4 p5; have HE := Lib.hid R1.e.end_; obtain ⟨p0, p1, p2, p3, p4, p5⟩ := s7_of R1.bm R1.e.op; obtain ⟨z0, z1, z2⟩ := st_of R1.e.rs; obtain ⟨f0, f1, f2⟩ := fz_of R1.e.rs)
  obtain ⟨y0, y1, y2⟩ := st_of HE.out.1
  clear R1
  go_wp2_with fail
  exact bodyPost_ret (v := .tuple #[rV y a' n' cap', .int .i64 cnt, .bool true]) (by simp [results, Try.results9, go_sem, y0, y1, y2]) rfl ⟨a', n', cap', rfl, HE.out.2⟩
theorem does_any {w : World} {x tb : Nat} {s : Bs} {a : Option Addr} {n cap : Nat} (h : BdAt w x tb s) (hr : SlS w a n cap s.l) (hn : Apt a n [x, tb]) {o : OpV} (ho : OpOk o) :
    Calls Try.prog 9 #[.pointer (some ⟨x, 0, none⟩), rV s a n cap, .agg (opC o)] w (DoesP w x tb a n (stp s o)) := by
  by_cases q : o.kind % 4 = 0
  · exact does_sent h hr hn ho.1 ho.2.1 q
  by_cases q1 : o.kind % 4 = 1
  · exact does_ack h hr hn ho.1 q1
  · exact does_sack h hr hn ho.1 q q1
end Go.Proofs.Ytegbkeichkifnaa.bd
/-!   Layer 9's equal.
-/
namespace Go.Proofs.Ytegbkeichkifnaa.bd
open Go.RowKit Go.Shelf aid mem rng sp rn bv
attribute [local go_sem ↓] Go.wp_at_zero Go.wp_at_succ
attribute [local go_sem] Oper.semAt_some
set_option linter.unusedVariables false
set_option linter.unusedSimpArgs false

/-- the box, the board, the row -/
structure ES (w : World) (x tb : Nat) (s : Bs) (a : Option Addr) (n cap : Nat) (W : World) : Prop where
  bd : BdAt W x tb s
  b0 : W.heap[w.heap.size]? = some (rO s a n cap)
  row : SlS W a n cap s.l
  below : Below w.heap.size w W
theorem ES.later {w W W' : World} {x tb : Nat} {s : Bs} {a : Option Addr} {n cap : Nat} (h : ES w x tb s a n cap W) (hb : Below W.heap.size W W') : ES w x tb s a n cap W' :=
  ⟨h.bd.later hb, (hb.block _ (lt_of_block h.b0)).trans h.b0, h.row.later hb, h.below.trans (hb.mono h.below.size)⟩
def RetL (l : List Sp) (w : World) (e : Ending) (w' : World) : Prop := ∃ a n cap, e = .returned (.slice a n cap) ∧ SlS w' a n cap l ∧ Below w.heap.size w w'
theorem told_l {l : List Sp} {w : World} {fn : Nat} {args : Array Value} (h : Calls Try.prog fn args w (rn.Told l w)) : Calls Try.prog fn args w (RetL l w) :=
  h.mono fun e w' ⟨v, he, ho, hb⟩ => by
    obtain ⟨a, cap, rfl, hs, _⟩ := sls_of_own ho
    exact ⟨a, _, cap, he, hs, hb⟩
theorem same_t {w : World} {a b : Option Addr} {n m c d : Nat} {l : List Sp} (ho : SlS w a n c l) (hq : SlS w b m d l) :
    Calls Try.prog 32 #[.slice a n c, .slice b m d] w fun e w' => e = .returned (.bool true) ∧ Below w.heap.size w w' :=
  (sp.rsame_any ho hq).mono fun e w' ⟨h1, h2⟩ => ⟨by rw [h1]; simp, h2⟩
set_option maxRecDepth 100000 in
set_option maxHeartbeats 8000000 in
theorem equal_any {w : World} {x tb : Nat} {s : Bs} {a : Option Addr} {n cap : Nat} (h : BdAt w x tb s) (hr : SlS w a n cap s.l) :
    Calls Try.prog 10 #[.pointer (some ⟨x, 0, none⟩), rV s a n cap] w fun e w' => e = .returned (.bool true) ∧ Below w.heap.size w w' := by
  have ho := h.ok
  have HU := Lib.hid (fun W (q : BdAt W x tb s) => una_any q.o)
  have HN := Lib.hid (fun W (q : BdAt W x tb s) => nxt_any q.o)
  have HH := Lib.hid (fun W (q : BdAt W x tb s) => high_any q.o)
  have HRH := Lib.hid (fun W (q : SlS W a n cap s.l) => rhigh_any q)
  have HBY := Lib.hid (fun W (q : BdAt W x tb s) => bbytes_any q.o)
  have HRB := Lib.hid (fun W (q : SlS W a n cap s.l) => rbytes_any q ho.rn)
  have HT := Lib.hid (fun W (q : BdAt W x tb s) => told_l (btold_any q.o))
  have HTH := Lib.hid (fun W (q : BdAt W x tb s) => told_l (bholed_any q.o))
  have HRO := Lib.hid (fun W (q : SlS W a n cap s.l) => show Calls Try.prog 33 #[rV s a n cap] W (RetL (gapsL s.l (s.una, highN s)) W) from rholes_any q ho)
  generalize gapsL s.l (s.una, highN s) = HL at *
  generalize highN s = hi at *
  generalize bytesL s.l = by_ at *
  have HSM := Lib.hid (fun W a2 n2 c2 (q1 : SlS W a2 n2 c2 s.l) (q2 : SlS W a n cap s.l) => same_t q1 q2)
  have HSH := Lib.hid (fun W a2 n2 c2 a3 n3 c3 (q1 : SlS W a2 n2 c2 HL) (q2 : SlS W a3 n3 c3 HL) => same_t q1 q2)
  unfold RetL at HT HTH HRO
  have hb := bal (w := w) (rO s a n cap)
  have S0 : ES w x tb s a n cap (w.alloc (rO s a n cap)) := ⟨h.later hb, heap_alloc_new w _, hr.later hb, hb⟩
  clear h hr ho hb
  go_enter Try.func10, Try.ntmps10
  go_upto_region 1 with fail
  generalize w.alloc (rO s a n cap) = W1 at *
  have S := S0.later (Below.refl _ _).drew
  clear S0
  have P0 := st_of S.b0
  go_region_held3 (fun W => St w.heap.size s a n cap W) (first | with_reducible exact P1 | with_reducible exact P0 | go_keep)
    (first
      | (go_at_call 18; (with_reducible refine (HU.out _ S.bd).mono ?_); rintro e w2 ⟨rfl, rfl⟩)
      | (go_at_call 20; (with_reducible refine (HN.out _ S.bd).mono ?_); rintro e w2 ⟨rfl, rfl⟩)
      | (go_at_call 21; (with_reducible refine (HH.out _ S.bd).mono ?_); rintro e w2 ⟨rfl, hb⟩; have S2 := S.later hb; clear S hb; have S := S2; clear S2; have P1 := st_of S.b0)
      | (go_at_call 30; (with_reducible refine (HRH.out _ S.row).mono ?_); rintro e w2 ⟨rfl, hb⟩; have S2 := S.later hb; clear S hb; have S := S2; clear S2; have P1 := st_of S.b0)
      | (go_at_call 19; (with_reducible refine (HBY.out _ S.bd).mono ?_); rintro e w2 ⟨rfl, hb⟩; have S2 := S.later hb; clear S hb; have S := S2; clear S2; have P1 := st_of S.b0)
      | (go_at_call 31; (with_reducible refine (HRB.out _ S.row).mono ?_); rintro e w2 ⟨rfl, hb⟩; have S2 := S.later hb; clear S hb; have S := S2; clear S2; have P1 := st_of S.b0)
      | (go_at_call 24; (with_reducible refine (HT.out _ S.bd).mono ?_); rintro e w2 ⟨a2, n2, c2, rfl, T2, hb⟩; have S2 := S.later hb; clear S hb; have S := S2; clear S2; have P1 := st_of S.b0)
      | (go_at_call 32; (with_reducible refine (HSM.out _ a2 n2 c2 T2 S.row).mono ?_); rintro e w2 ⟨rfl, hb⟩; have S2 := S.later hb; clear S hb; have S := S2; clear S2; have P1 := st_of S.b0)
      | (go_at_call 24; (with_reducible refine (HTH.out _ S.bd).mono ?_); rintro e w2 ⟨a3, n3, c3, rfl, T3, hb⟩; have S2 := S.later hb; clear S hb T2; have S := S2; clear S2; have P1 := st_of S.b0)
      | (go_at_call 33; (with_reducible refine (HRO.out _ S.row).mono ?_); rintro e w2 ⟨a4, n4, c4, rfl, T4, hb⟩; have S2 := S.later hb; have T5 := T3.later hb; clear S hb T3; have S := S2; clear S2; have P1 := st_of S.b0)
      | (go_at_call 32; (with_reducible refine (HSH.out _ a3 n3 c3 a4 n4 c4 T5 T4).mono ?_); rintro e w2 ⟨rfl, hb⟩; have S2 := S.later hb; clear S hb; have S := S2; clear S2; have P1 := st_of S.b0))
  go_wp2_with fail
  go_ret
  exact ⟨rfl, S.below⟩
end Go.Proofs.Ytegbkeichkifnaa.bd
/-!   Layer 9's law BoardPlays.
-/
namespace Go.Proofs.Ytegbkeichkifnaa.bd
open Go.RowKit Go.Shelf aid mem rng sp rn bv
attribute [local go_sem ↓] Go.wp_at_zero Go.wp_at_succ
attribute [local go_sem] Oper.semAt_some
set_option linter.unusedVariables false
set_option linter.unusedSimpArgs false

theorem known_w {w w1 : World} (hb : Below w.heap.size w w1) : Calls Try.prog 7 #[] w1 fun e w' => e = .returned (.bool true) ∧ Below w.heap.size w w' :=
  (known_any w1).mono fun e w' ⟨h1, h2⟩ => ⟨h1, hb.trans (h2.mono hb.size)⟩
/-- a board of one's own, the document's in a box (what it was), its row, a span's box -/
structure PS (w : World) (x tb X : Nat) (s z : Bs) (a1 : Option Addr) (n1 c1 : Nat) (a : Option Addr) (n cap : Nat) (O : Nat) (y : Sp) (W : World) : Prop where
  bd : BdAt W x tb s
  xb : W.heap[X]? = some (rO z a1 n1 c1)
  row : SlS W a n cap s.l
  rn : Apt a n [x, tb, X]
  ob : SpAt W O y
  below : Below w.heap.size w W
  own : w.heap.size ≤ x ∧ w.heap.size ≤ tb
  xl : w.heap.size ≤ X
theorem spat_typ {w : World} {x tb O : Nat} {s : Bs} {y : Sp} (h : BdAt w x tb s) (ho : SpAt w O y) : O ∉ [x, tb] := h.typ (show w.heap[O]? = some (.cells _ 24 (0, 0)) from ho) (by decide) (by decide)
theorem frm_apt {w : World} {o : Obj} {a a' : Option Addr} {n n' : Nat} (hl : ∀ z, a = some z → 0 < n → z.block < w.heap.size) (hf : Frm (w.alloc o).drew a n a' n') : Apt a' n' [w.heap.size] := fun z hz h0 => by
  simp only [List.mem_singleton]
  rcases hf z hz h0 with ⟨e1, e2⟩ | e
  · have := hl z e1 e2; omega
  · have : w.heap.size + 1 ≤ z.block := by have h := e; simp only [World.drew] at h; simpa using h
    omega
section
variable {w W W' : World} {x tb X O Z : Nat} {s s' z v : Bs} {a1 a a' va : Option Addr} {n1 c1 n cap n' cap' vn vc : Nat} {y : Sp}
theorem PS.later (h : PS w x tb X s z a1 n1 c1 a n cap O y W) (hb : Below W.heap.size W W') : PS w x tb X s z a1 n1 c1 a n cap O y W' :=
  ⟨h.bd.later hb, (hb.block _ (lt_of_block h.xb)).trans h.xb, h.row.later hb, h.rn, h.ob.later hb, h.below.trans (hb.mono h.below.size), h.own, h.xl⟩
theorem PS.drew (h : PS w x tb X s z a1 n1 c1 a n cap O y W) : PS w x tb X s z a1 n1 c1 a n cap O y W.drew := h.later (Below.refl _ _).drew
theorem PS.apt (h : PS w x tb X s z a1 n1 c1 a n cap O y W) : Apt a n [x, tb] := fun c hc h0 e => h.rn c hc h0 (by simp only [List.mem_cons, List.not_mem_nil, or_false] at e ⊢; rcases e with e | e <;> simp [e])
/-- does -/
theorem PS.does (h : PS w x tb X s z a1 n1 c1 a n cap O y W) (hf : FinD W x tb a n s' a' n' cap' W') : PS w x tb X s' z a1 n1 c1 a' n' cap' O y W' := by
  obtain ⟨f1, f2, f3, f4, f5⟩ := hf
  have hX := lt_of_block h.xb
  refine ⟨f1, f4.heap (h.bd.typR h.xb) h.xb, f2, fun c hc h0 e => ?_, h.ob.keep f4 (spat_typ h.bd h.ob), h.below.trans (f4.below (fun k hk => by simp only [List.mem_cons, List.not_mem_nil, or_false] at hk; rcases hk with rfl | rfl; exact h.own.1; exact h.own.2) h.below.size), h.own, h.xl⟩
  have q := f3 c hc h0
  simp only [List.mem_cons, List.not_mem_nil, or_false] at e q
  rcases f5 c hc h0 with ⟨e1, e2⟩ | e1
  · have q2 := h.rn c e1 e2
    simp only [List.mem_cons, List.not_mem_nil, or_false] at q2
    exact q2 e
  · omega
/-- a box is written that nobody reads -/
theorem PS.put (h : PS w x tb X s z a1 n1 c1 a n cap O y W) (hz : W.heap[Z]? = some (rO v va vn vc)) (hZ : w.heap.size ≤ Z) (hXZ : X ≠ Z) (hr : Apt a n [Z]) (v' : Bs) (va' : Option Addr) (vn' vc' : Nat) : PS w x tb X s z a1 n1 c1 a n cap O y (put3 Z v' va' vn' vc' W) := by
  have kk := put3_kept Z v' va' vn' vc' W
  have hO : O ≠ Z := fun e => by subst e; have := show W.heap[O]? = some (.cells _ 24 (0, 0)) from h.ob; rw [hz] at this; simp at this
  exact ⟨h.bd.otherT hz ntR.1 ntR.2 kk, kk.heap (by simpa using hXZ) h.xb, h.row.keep kk hr, h.rn, h.ob.keep kk (by simpa using hO), h.below.trans (kk.below (by simpa using hZ) h.below.size), h.own, h.xl⟩
/-- the document's box is written -/
theorem PS.set (h : PS w x tb X s z a1 n1 c1 a n cap O y W) : PS w x tb X s s a n cap a n cap O y (put3 X s a n cap W) := by
  have kk := put3_kept X s a n cap W
  have hO : O ≠ X := fun e => by subst e; have := show W.heap[O]? = some (.cells _ 24 (0, 0)) from h.ob; rw [h.xb] at this; simp at this
  exact ⟨h.bd.otherT h.xb ntR.1 ntR.2 kk, put3_at h.xb s a n cap, h.row.keep kk (fun c hc h0 e => h.rn c hc h0 (by simp only [List.mem_cons, List.not_mem_nil, or_false] at e ⊢; simp [e])), h.rn, h.ob.keep kk (by simpa using hO), h.below.trans (kk.below (by simpa using h.xl) h.below.size), h.own, h.xl⟩
end
abbrev S8 (X : Nat) (s : Bs) (a : Option Addr) (n cap : Nat) (Bo off k : Nat) (o : OpV) (W : World) : Prop := W.cell? ⟨X, 0, none⟩ = some (.int .i64 s.una) ∧ W.cell? ⟨X, 1, none⟩ = some (.int .i64 s.nxt) ∧ W.cell? ⟨X, 2, none⟩ = some (.slice a n cap) ∧
  W.cell? ⟨Bo, off + k * 4, none⟩ = some (.int .u8 o.kind) ∧ W.cell? ⟨Bo, off + k * 4 + 1, none⟩ = some (.int .i64 o.tt) ∧ W.cell? ⟨Bo, off + k * 4 + 2, none⟩ = some (.int .i64 o.s.1) ∧ W.cell? ⟨Bo, off + k * 4 + 3, none⟩ = some (.int .i64 o.s.2)
abbrev S5 (X O : Nat) (s : Bs) (a : Option Addr) (n cap : Nat) (y : Sp) (W : World) : Prop := W.cell? ⟨X, 0, none⟩ = some (.int .i64 s.una) ∧ W.cell? ⟨X, 1, none⟩ = some (.int .i64 s.nxt) ∧ W.cell? ⟨X, 2, none⟩ = some (.slice a n cap) ∧ W.cell? ⟨O, 0, none⟩ = some (.int .i64 y.1) ∧ W.cell? ⟨O, 1, none⟩ = some (.int .i64 y.2)
theorem PS.s5 {w W : World} {x tb X O : Nat} {s : Bs} {a : Option Addr} {n cap : Nat} {y : Sp} (h : PS w x tb X s s a n cap a n cap O y W) : S5 X O s a n cap y W := by
  obtain ⟨r0, r1, r2⟩ := st_of h.xb
  exact ⟨r0, r1, r2, h.ob.c0, h.ob.c1⟩
set_option maxRecDepth 100000 in
set_option maxHeartbeats 8000000 in
theorem walk_BoardPlays (w : World) (u : Int) (hu : -9223372036854775808 ≤ u ∧ u ≤ 9223372036854775807) (oa : Option Addr) (on oc : Nat) (ops : List OpV) (hops : OpA w oa on oc ops) (y : Sp) :
    Calls Try.prog 3 #[.int .i64 u, .slice oa on oc, spV y] w fun e w' => e = .returned (.bool true) ∧ Below w.heap.size w w' := by
  have HO := Lib.hid (sp_new w y)
  have hb := bal (w := w) (.cells #[.int .i64 y.1, .int .i64 y.2] 24)
  have hle := hops.le
  have hmost := hops.most
  unfold maxLen at hmost
  have HC := Lib.hid hops.cells
  clear hops
  by_cases hr : 0 ≤ u ∧ u ≤ 4611686018427387904
  case neg =>
    have HNB := Lib.hid (bnew_bad hr)
    clear HC
    by_cases h1 : u < 0
    · go_enter Try.func3, Try.ntmps3
      go_wp2_with (first
        | (go_at_call 7; (with_reducible refine (known_w hb).mono ?_); clear hb; rintro e w1 ⟨rfl, hb⟩)
        | (go_at_call 8; (with_reducible refine (HNB.out _).mono ?_); rintro e w1 ⟨rfl, rfl⟩))
      go_ret
      exact ⟨rfl, hb⟩
    have h2 : 4611686018427387904 < u := by omega
    go_enter Try.func3, Try.ntmps3
    go_wp2_with (first
      | (go_at_call 7; (with_reducible refine (known_w hb).mono ?_); clear hb; rintro e w1 ⟨rfl, hb⟩)
      | (go_at_call 8; (with_reducible refine (HNB.out _).mono ?_); rintro e w1 ⟨rfl, rfl⟩))
    go_ret
    exact ⟨rfl, hb⟩
  case pos =>
  obtain ⟨u0, u1⟩ := hr
  have h1 : ¬ u < 0 := by omega
  have h2 : ¬ 4611686018427387904 < u := by omega
  have HN := Lib.hid (fun X => bnew_ok u0 u1 X)
  go_enter Try.func3, Try.ntmps3
  go_upto_region 9 with (first
    | (go_at_call 7; (with_reducible refine (known_any _).mono ?_); rintro e w1 ⟨rfl, hb1⟩; have HOB := Lib.hid (SpAt.later HO.out hb1); replace hb := hb.trans (hb1.mono hb.size); clear hb1)
    | (go_at_call 8; (with_reducible refine (HN.out _).mono ?_); rintro e w2 ⟨x, tb, rfl, hd, hb2, hx, htb⟩))
  have P0 : PS w x tb w2.heap.size ⟨u, u, []⟩ ⟨u, u, []⟩ none 0 0 none 0 0 w.heap.size y (w2.alloc (rO ⟨u, u, []⟩ none 0 0)) :=
    have hb3 := hb.trans (hb2.mono hb.size)
    ⟨hd.later (bal _), heap_alloc_new w2 _, sls_nil _, fun c hc h0 => by omega, (SpAt.later HOB.out hb2).later (bal _), hb3.trans ((bal _).mono hb3.size), ⟨Nat.le_trans hb.size hx, Nat.le_trans hb.size htb⟩, hb3.size⟩
  clear hd hb2 hx htb hb HOB HN HO u0 u1 h1 h2
  generalize w2.heap.size = X at *
  generalize w.heap.size = O at P0
  generalize w2.alloc (rO ⟨u, u, []⟩ none 0 0) = V0 at *
  go_wp2_with fail
  go_loopw [10] (fun i wr => ∃ (k : Nat) (s : Bs) (a : Option Addr) (n cap : Nat), i = .int .i64 k ∧ k ≤ on ∧ k ≤ 200 ∧ PS w x tb X s s a n cap a n cap O y wr) (fun i _ => 200 - (intOf i).toNat)
  case atStart => exact ⟨0, _, _, _, _, rfl, by omega, by omega, P0⟩
  case round =>
    clear P0
    obtain ⟨k, s, a, n, cap, rfl, hk, hk3, P⟩ := hrel
    by_cases hlt : k < on ∧ k < 200
    case neg =>
      have ho := P.bd.ok
      have HBW := Lib.hid (fun W (q : BdAt W x tb s) => bwithin_any q.o y)
      have HRW := Lib.hid (fun W (q : SlS W a n cap s.l) => rwithin_any q ho.rn y)
      have HBH := Lib.hid (fun W (q : BdAt W x tb s) => show Calls Try.prog 13 #[.pointer (some ⟨x, 0, none⟩), spV y] W (RetB (hasN s y) W) from by have := bhas_any q.o y; rw [if_neg (by simp)] at this; exact this)
      have HRH := Lib.hid (fun W (q : SlS W a n cap s.l) => rhas_any q ho y)
      clear ho HC
      generalize withinL s.l y = wi at *
      generalize hasN s y = ha at *
      by_cases h1 : k < on
      · have h2 : ¬ k < 200 := by omega
        go_upto_region 16 with fail
        have P := P.drew
        have P1 := P.s5
        go_region_held3 (fun W => S5 X O s a n cap y W) (first | with_reducible exact P2 | with_reducible exact P1 | go_keep)
          (first
            | (go_at_call 11; (with_reducible refine (HBW.out _ P.bd).mono ?_); rintro e w3 ⟨rfl, h3⟩; have Q := P.later h3; clear P h3; have P := Q; clear Q; have P2 := P.s5)
            | (go_at_call 12; (with_reducible refine (HRW.out _ P.row).mono ?_); rintro e w3 ⟨rfl, h3⟩; have Q := P.later h3; clear P h3; have P := Q; clear Q; have P2 := P.s5)
            | (go_at_call 13; (with_reducible refine (HBH.out _ P.bd).mono ?_); rintro e w3 ⟨rfl, h3⟩; have Q := P.later h3; clear P h3; have P := Q; clear Q; have P2 := P.s5)
            | (go_at_call 14; (with_reducible refine (HRH.out _ P.row).mono ?_); rintro e w3 ⟨rfl, h3⟩; have Q := P.later h3; clear P h3; have P := Q; clear Q; have P2 := P.s5)
            | (go_at_call 7; (with_reducible refine (known_any _).mono ?_); rintro e w3 ⟨rfl, h3⟩; have Q := P.later h3; clear P h3; have P := Q; clear Q; have P2 := P.s5))
        go_wp2_with fail
        go_ret
        exact ⟨rfl, P.below⟩
      · go_upto_region 16 with fail
        have P := P.drew
        have P1 := P.s5
        go_region_held3 (fun W => S5 X O s a n cap y W) (first | with_reducible exact P2 | with_reducible exact P1 | go_keep)
          (first
            | (go_at_call 11; (with_reducible refine (HBW.out _ P.bd).mono ?_); rintro e w3 ⟨rfl, h3⟩; have Q := P.later h3; clear P h3; have P := Q; clear Q; have P2 := P.s5)
            | (go_at_call 12; (with_reducible refine (HRW.out _ P.row).mono ?_); rintro e w3 ⟨rfl, h3⟩; have Q := P.later h3; clear P h3; have P := Q; clear Q; have P2 := P.s5)
            | (go_at_call 13; (with_reducible refine (HBH.out _ P.bd).mono ?_); rintro e w3 ⟨rfl, h3⟩; have Q := P.later h3; clear P h3; have P := Q; clear Q; have P2 := P.s5)
            | (go_at_call 14; (with_reducible refine (HRH.out _ P.row).mono ?_); rintro e w3 ⟨rfl, h3⟩; have Q := P.later h3; clear P h3; have P := Q; clear Q; have P2 := P.s5)
            | (go_at_call 7; (with_reducible refine (known_any _).mono ?_); rintro e w3 ⟨rfl, h3⟩; have Q := P.later h3; clear P h3; have P := Q; clear Q; have P2 := P.s5))
        go_wp2_with fail
        go_ret
        exact ⟨rfl, P.below⟩
    case pos =>
    obtain ⟨h1, h2⟩ := hlt
    obtain ⟨Bo, off, rfl, hc⟩ := HC.out (by omega)
    obtain ⟨c0, c1, c2, c3, hok⟩ := hc k h1
    have HOP := Lib.hid (fun W (h : Below w.heap.size w W) => show W.cell? ⟨Bo, off + k * 4, none⟩ = some (.int .u8 (ops.getD k default).kind) ∧ W.cell? ⟨Bo, off + k * 4 + 1, none⟩ = some (.int .i64 (ops.getD k default).tt) ∧ W.cell? ⟨Bo, off + k * 4 + 2, none⟩ = some (.int .i64 (ops.getD k default).s.1) ∧ W.cell? ⟨Bo, off + k * 4 + 3, none⟩ = some (.int .i64 (ops.getD k default).s.2) from ⟨(h.cell (p := ⟨Bo, off + k * 4, none⟩) (World.block_lt_of_cell? w _ c0)).trans c0, (h.cell (p := ⟨Bo, off + k * 4 + 1, none⟩) (World.block_lt_of_cell? w _ c1)).trans c1, (h.cell (p := ⟨Bo, off + k * 4 + 2, none⟩) (World.block_lt_of_cell? w _ c2)).trans c2, (h.cell (p := ⟨Bo, off + k * 4 + 3, none⟩) (World.block_lt_of_cell? w _ c3)).trans c3⟩)
    have HOK := Lib.hid hok
    clear hc c0 c1 c2 c3 hok
    generalize ops.getD k default = q at *
    have HDO := Lib.hid (fun V (p : PS w x tb X s s a n cap a n cap O y V) => does_any p.bd p.row p.apt HOK.out)
    unfold DoesP at HDO
    generalize stp s q = r at *
    obtain ⟨cnt, s'⟩ := r
    dsimp only at HDO
    have HSO2 := Lib.hid (fun V (z : Bs) a' n' cap' (p : PS w x tb X z s a n cap a' n' cap' O y V) => show S8 X s a n cap Bo off k q V from by
      obtain ⟨x0, x1, x2⟩ := st_of p.xb
      obtain ⟨o0, o1, o2, o3⟩ := HOP.out _ p.below
      exact ⟨x0, x1, x2, o0, o1, o2, o3⟩)
    go_upto_region 12 with fail
    go_cut [11, 12, 13] (fun s11 s12 s13 wx => ∃ Z, s11 = .pointer (some ⟨Z, 0, none⟩) ∧ s12 = .int .i64 cnt ∧ s13 = .bool true ∧ Hid (∃ a' n' cap', PS w x tb X s' s a n cap a' n' cap' O y wx ∧ wx.heap[Z]? = some (rO s' a' n' cap')))
    case first =>
      have HXZ := Lib.hid (show X ≠ wr.heap.size ∧ w.heap.size ≤ wr.heap.size from ⟨Nat.ne_of_lt (lt_of_block P.xb), P.below.size⟩)
      have HGD := Lib.hid P.drew
      have HGA := Lib.hid ((P.later (bal zO)).drew)
      have HLT := Lib.hid (SlS.lt P.row)
      have HY := Lib.hid (heap_alloc_new wr zO)
      have P1 := HSO2.out _ _ _ _ _ HGD.out
      have P2 := HSO2.out _ _ _ _ _ HGA.out
      obtain ⟨x0, x1, x2, o0, o1, o2, o3⟩ := HSO2.out _ _ _ _ _ P
      clear P
      go_wp2_with fail
      go_region_held3 (fun W => S8 X s a n cap Bo off k q W) (first | with_reducible exact P5 | with_reducible exact P4 | with_reducible exact P3 | with_reducible exact P2 | with_reducible exact P1 | go_keep)
        ((go_at_call 9; first
          | ((with_reducible refine (HDO.out _ HGD.out).mono ?_); rintro e w5 ⟨a', n', cap', rfl, hf⟩; have R := HGD.out.does hf; have P3 := HSO2.out _ _ _ _ _ R; have RA := R.later (bal (rO s' a' n' cap')); have P4 := HSO2.out _ _ _ _ _ RA; have P5 := HSO2.out _ _ _ _ _ (R.later (bal zO)); have HR := Lib.hid (And.intro RA (heap_alloc_new w5 (rO s' a' n' cap'))); clear hf R RA)
          | ((with_reducible refine (HDO.out _ HGA.out).mono ?_); rintro e w5 ⟨a', n', cap', rfl, hf⟩; have R := HGA.out.does hf; have P3 := HSO2.out _ _ _ _ _ R; have hy5 : w5.heap[wr.heap.size]? = some (rO Bs.zero none 0 0) := hf.2.2.2.1.heap (HGA.out.bd.typ HY.out ntR.1 ntR.2) HY.out; obtain ⟨g0, g1, g2⟩ := st_of hy5; obtain ⟨f0, f1, f2⟩ := fz_of hy5; have RA := R.put hy5 HXZ.out.2 HXZ.out.1 (frm_apt HLT.out hf.2.2.2.2) s' a' n' cap'; have P4 := HSO2.out _ _ _ _ _ RA; have HR := Lib.hid (And.intro RA (put3_at hy5 s' a' n' cap')); clear hf R RA hy5)))
      · clear P1 P2 P3 P4 P5 x0 x1 x2 o0 o1 o2 o3 HGD HGA HY HXZ HSO2 HDO HLT
        generalize w5.alloc (rO s' a' n' cap') = W5 at *
        go_wp2_with fail
        go_meet
        exact ⟨_, rfl, rfl, rfl, Lib.hid ⟨_, _, _, HR.out⟩⟩
      · clear P1 P2 P3 P4 x0 x1 x2 o0 o1 o2 o3 g0 g1 g2 f0 f1 f2 HGD HGA HY HXZ HSO2 HDO HLT
        unfold put3 at HR
        generalize ((w5.setCell ⟨wr.heap.size, 0, none⟩ (.int .i64 s'.una)).setCell ⟨wr.heap.size, 1, none⟩ (.int .i64 s'.nxt)).setCell ⟨wr.heap.size, 2, none⟩ (.slice a' n' cap') = W5 at *
        go_wp2_with fail
        go_meet
        exact ⟨_, rfl, rfl, rfl, Lib.hid ⟨_, _, _, HR.out⟩⟩
    case rest =>
      clear P HSO2 HDO
      obtain ⟨Z, rfl, rfl, rfl, HR⟩ := hcut
      obtain ⟨a', n', cap', G, hz⟩ := HR.out
      clear HR
      generalize wc = V at *
      obtain ⟨z0, z1, z2⟩ := st_of hz
      obtain ⟨x0, x1, x2⟩ := st_of G.xb
      obtain ⟨f0, f1, f2⟩ := fz_of G.xb
      go_upto_region 14 with fail
      replace G := G.set
      unfold put3 at G
      clear z0 z1 z2 x0 x1 x2 f0 f1 f2 hz
      generalize ((V.setCell ⟨X, 0, none⟩ (.int .i64 s'.una)).setCell ⟨X, 1, none⟩ (.int .i64 s'.nxt)).setCell ⟨X, 2, none⟩ (.slice a' n' cap') = V2 at *
      obtain ⟨x0, x1, x2⟩ := st_of G.xb
      go_wp2_with (go_at_call 10; (with_reducible refine (equal_any G.bd G.row).mono ?_); rintro e w6 ⟨rfl, hb6⟩; have G6 := G.later hb6; clear G hb6)
      go_roundw
      case rel => exact ⟨k + 1, s', a', n', cap', by go_num, by omega, by omega, G6⟩
      case measure => simp [intOf]; omega
end Go.Proofs.Ytegbkeichkifnaa.bd
/-!   Layer 9's law BoardOrder.
-/
namespace Go.Proofs.Ytegbkeichkifnaa.bd
open Go.RowKit Go.Shelf aid mem rng sp rn bv
attribute [local go_sem ↓] Go.wp_at_zero Go.wp_at_succ
attribute [local go_sem] Oper.semAt_some
set_option linter.unusedVariables false
set_option linter.unusedSimpArgs false

/-! ### a row of spans that are sacked one behind the other -/
def foldS (s : Bs) (l : List Sp) : Bs := l.foldl (fun s y => (sackN s y).2.2) s
/-- what a span adds -/
def addsB (u v : Int) (y : Sp) (o : Int) : Prop := ¬ lenI y = 0 ∧ ¬ v < y.2 ∧ lenI (fromP y u) ≠ 0 ∧ (fromP y u).1 ≤ o ∧ o < (fromP y u).2
theorem sack_step {s : Bs} (h : BOk s) (hl : s.l.length ≤ 4000) (y : Sp) : (sackN s y).2.2.una = s.una ∧ (sackN s y).2.2.nxt = s.nxt ∧ (sackN s y).2.2.l.length ≤ s.l.length + 1 ∧ ∀ o, In (sackN s y).2.2.l o ↔ In s.l o ∨ addsB s.una s.nxt y o := by
  unfold sackN
  split
  · rename_i c
    exact ⟨rfl, rfl, by simp only; omega, fun o => ⟨fun q => .inl q, fun q => q.elim id (fun q => absurd c q.1)⟩⟩
  · rename_i c1
    split
    · rename_i c
      exact ⟨rfl, rfl, by simp only; omega, fun o => ⟨fun q => .inl q, fun q => q.elim id (fun q => absurd c q.2.1)⟩⟩
    · rename_i c2
      have hlen : (refWi s.l (fromP y s.una)).length ≤ s.l.length + 1 := by
        by_cases c : lenI (fromP y s.una) = 0
        · unfold refWi; rw [if_pos c]; omega
        · exact wi_len s.l _ h.rn (len_pos_ok c).ok
      rw [if_neg (by omega)]
      refine ⟨rfl, rfl, hlen, fun o => ?_⟩
      by_cases c : lenI (fromP y s.una) = 0
      · show In (refWi s.l (fromP y s.una)) o ↔ _
        unfold refWi
        rw [if_pos c]
        exact ⟨fun q => .inl q, fun q => q.elim id (fun q => absurd c q.2.2.1)⟩
      · have := (wi_spec h.rn (len_pos_ok c)).2.1 o
        show In (refWi s.l (fromP y s.una)) o ↔ _
        rw [this]
        exact ⟨fun q => q.imp id (fun q => ⟨c1, c2, c, q⟩), fun q => q.imp id (fun q => q.2.2.2)⟩
theorem fold_step : ∀ (l : List Sp) (s : Bs), BOk s → s.l.length + l.length ≤ 4000 → BOk (foldS s l) ∧ (foldS s l).una = s.una ∧ (foldS s l).nxt = s.nxt ∧ ∀ o, In (foldS s l).l o ↔ In s.l o ∨ ∃ y ∈ l, addsB s.una s.nxt y o := by
  intro l
  induction l with
  | nil => intro s h _; exact ⟨h, rfl, rfl, fun o => ⟨fun q => .inl q, fun q => q.elim id (fun ⟨y, hy, _⟩ => by simp at hy)⟩⟩
  | cons y l ih =>
    intro s h hl
    simp only [List.length_cons] at hl
    obtain ⟨e1, e2, e3, e4⟩ := sack_step h (by omega) y
    obtain ⟨a1, a2, a3, a4⟩ := ih (sackN s y).2.2 (sack_ok h y) (by omega)
    refine ⟨a1, a2.trans e1, a3.trans e2, fun o => ?_⟩
    show In (foldS (sackN s y).2.2 l).l o ↔ _
    rw [a4, e4, e1, e2]
    constructor
    · rintro ((q | q) | ⟨z, hz, q⟩)
      · exact .inl q
      · exact .inr ⟨y, by simp, q⟩
      · exact .inr ⟨z, by simp [hz], q⟩
    · rintro (q | ⟨z, hz, q⟩)
      · exact .inl (.inl q)
      · rcases List.mem_cons.1 hz with rfl | hz
        · exact .inl (.inr q)
        · exact .inr ⟨z, hz, q⟩
theorem fold_rev (s : Bs) (l : List Sp) (h : BOk s) (hl : s.l.length + l.length ≤ 4000) : foldS s l.reverse = foldS s l := by
  obtain ⟨a1, a2, a3, a4⟩ := fold_step l s h hl
  obtain ⟨b1, b2, b3, b4⟩ := fold_step l.reverse s h (by simpa using hl)
  have : (foldS s l.reverse).l = (foldS s l).l := Rn.ext b1.rn a1.rn (fun o => by
    rw [a4, b4]
    simp only [List.mem_reverse])
  cases ha : foldS s l with
  | mk u1 n1 l1 =>
    cases hb : foldS s l.reverse with
    | mk u2 n2 l2 =>
      rw [ha] at a2 a3 this
      rw [hb] at b2 b3 this
      simp only at a2 a3 b2 b3 this
      rw [a2, a3, b2, b3, this]
theorem fold_take {s : Bs} {l : List Sp} {k : Nat} (hk : k < l.length) : foldS s (l.take (k + 1)) = (sackN (foldS s (l.take k)) (l.getD k (0, 0))).2.2 := by
  unfold foldS
  rw [List.take_succ_eq_append_getElem hk, List.foldl_append]
  simp only [List.foldl_cons, List.foldl_nil]
  rw [List.getD_eq_getElem?_getD, List.getElem?_eq_getElem hk]
  rfl
theorem rev_getD {l : List Sp} {k n : Nat} (hn : l.length = n) (hk : k < n) : l.reverse.getD k (0, 0) = l.getD (n - 1 - k) (0, 0) := by
  subst hn
  rw [List.getD_eq_getElem?_getD, List.getD_eq_getElem?_getD, List.getElem?_reverse hk]

/-! ### two boards -/
theorem BdAt.keep2 {w w' : World} {x tb y ub : Nat} {s r : Bs} (h : BdAt w y ub r) (k : BdAt w x tb s) (hyx : y ≠ x) (hub : ub ≠ tb) (hk : Kept [x, tb] w w') : BdAt w' y ub r := by
  obtain ⟨t0, ⟨q0, g1, g2⟩, g3⟩ := k.tl
  have key : ∀ (b : Nat) (cs' : Array Value) (ty : TypeId), ty ≠ 59 → ty ≠ 94 → w.heap[b]? = some (.cells cs' ty (0, 0)) → w'.heap[b]? = w.heap[b]? := fun b cs' ty h1 h2 hb => by
    refine hk.block b (lt_of_block hb) (fun e => ?_)
    simp only [List.mem_cons, List.not_mem_nil, or_false] at e
    rcases e with rfl | rfl
    · have := k.cel
      rw [hb] at this
      injection this with this
      injection this with _ this _
      exact h1 this
    · rw [hb] at g1
      injection g1 with g1
      injection g1 with _ g1 _
      exact h2 g1
  obtain ⟨t, ⟨q, h1, h2⟩, h3⟩ := h.tl
  have e1 : y ∉ [x, tb] := by
    simp only [List.mem_cons, List.not_mem_nil, or_false]
    rintro (e | e)
    · exact hyx e
    · subst e
      have := h.cel
      rw [g1] at this
      injection this with this
      injection this with _ this _
      exact absurd this (by decide)
  have e2 : ub ∉ [x, tb] := by
    simp only [List.mem_cons, List.not_mem_nil, or_false]
    rintro (e | e)
    · subst e
      have := k.cel
      rw [h1] at this
      injection this with this
      injection this with _ this _
      exact absurd this (by decide)
    · exact hub e
  exact ⟨hk.heap e1 h.cel, ⟨t, ⟨q, hk.heap e2 h1, h2.keepT (fun z cs hz => key z cs _ (by decide) (by decide) hz)⟩, h3⟩, h.ok⟩
/-- two boards of one's own, the last operation's box -/
structure PB (w : World) (x tb y ub : Nat) (s r : Bs) (O : Nat) (o : OpV) (W : World) : Prop where
  a : BdAt W x tb s
  b : BdAt W y ub r
  ne : x ≠ y ∧ tb ≠ ub
  ob : W.heap[O]? = some (opO o)
  below : Below w.heap.size w W
  own : w.heap.size ≤ x ∧ w.heap.size ≤ tb ∧ w.heap.size ≤ y ∧ w.heap.size ≤ ub
section
variable {w W W' : World} {x tb y ub O : Nat} {s r s' r' : Bs} {o : OpV}
theorem PB.later (h : PB w x tb y ub s r O o W) (hb : Below W.heap.size W W') : PB w x tb y ub s r O o W' :=
  ⟨h.a.later hb, h.b.later hb, h.ne, (hb.block _ (lt_of_block h.ob)).trans h.ob, h.below.trans (hb.mono h.below.size), h.own⟩
theorem PB.putA (h : PB w x tb y ub s r O o W) (hd : BdAt W' x tb s') (hk : Kept [x, tb] W W') : PB w x tb y ub s' r O o W' :=
  ⟨hd, h.b.keep2 h.a (Ne.symm h.ne.1) (Ne.symm h.ne.2) hk, h.ne, hk.heap (h.a.typ h.ob ntO.1 ntO.2) h.ob, h.below.trans (hk.below (fun k hk => by simp only [List.mem_cons, List.not_mem_nil, or_false] at hk; rcases hk with rfl | rfl; exact h.own.1; exact h.own.2.1) h.below.size), h.own⟩
theorem PB.putB (h : PB w x tb y ub s r O o W) (hd : BdAt W' y ub r') (hk : Kept [y, ub] W W') : PB w x tb y ub s r' O o W' :=
  ⟨h.a.keep2 h.b h.ne.1 h.ne.2 hk, hd, h.ne, hk.heap (h.b.typ h.ob ntO.1 ntO.2) h.ob, h.below.trans (hk.below (fun k hk => by simp only [List.mem_cons, List.not_mem_nil, or_false] at hk; rcases hk with rfl | rfl; exact h.own.2.2.1; exact h.own.2.2.2) h.below.size), h.own⟩
end
/-- the clone, the document's, both rows, at the end -/
structure QB (w : World) (x tb z zb G H : Nat) (s s' : Bs) (a0 : Option Addr) (n0 c0 : Nat) (a1 : Option Addr) (n1 c1 : Nat) (W : World) : Prop where
  a : BdAt W x tb s
  c : BdAt W z zb s'
  gb : W.heap[G]? = some (rO s a0 n0 c0)
  grow : SlS W a0 n0 c0 s.l
  hb : W.heap[H]? = some (rO s' a1 n1 c1)
  hrow : SlS W a1 n1 c1 s'.l
  below : Below w.heap.size w W
theorem QB.later {w W W' : World} {x tb z zb G H : Nat} {s s' : Bs} {a0 : Option Addr} {n0 c0 : Nat} {a1 : Option Addr} {n1 c1 : Nat} (h : QB w x tb z zb G H s s' a0 n0 c0 a1 n1 c1 W) (hb : Below W.heap.size W W') : QB w x tb z zb G H s s' a0 n0 c0 a1 n1 c1 W' :=
  ⟨h.a.later hb, h.c.later hb, (hb.block _ (lt_of_block h.gb)).trans h.gb, h.grow.later hb, (hb.block _ (lt_of_block h.hb)).trans h.hb, h.hrow.later hb, h.below.trans (hb.mono h.below.size)⟩
theorem qb_new {w V W : World} {x tb y ub z zb O G : Nat} {s r s' : Bs} {o : OpV} {a0 a1 : Option Addr} {n0 c0 n1 c1 : Nat} (P : PB w x tb y ub s r O o V) (hc : BdAt V z zb s) (hS : SlS V a0 n0 c0 s.l) (hG : V.heap[G]? = some (rO s a0 n0 c0)) (hap : Apt a0 n0 [z, zb]) (hzx : x ≠ z ∧ tb ≠ zb) (hzw : w.heap.size ≤ z ∧ w.heap.size ≤ zb) (hf : FinD V z zb a0 n0 s' a1 n1 c1 W) :
    QB w x tb z zb G W.heap.size s s' a0 n0 c0 a1 n1 c1 (W.alloc (rO s' a1 n1 c1)) := by
  obtain ⟨f1, f2, f3, f4, f5⟩ := hf
  have b := bal (w := W) (rO s' a1 n1 c1)
  have hb : Below w.heap.size w W := P.below.trans (f4.below (fun k hk => by simp only [List.mem_cons, List.not_mem_nil, or_false] at hk; rcases hk with rfl | rfl; exact hzw.1; exact hzw.2) P.below.size)
  exact ⟨(P.a.keep2 hc hzx.1 hzx.2 f4).later b, f1.later b, (b.block _ (lt_of_block (f4.heap (hc.typR hG) hG))).trans (f4.heap (hc.typR hG) hG), (hS.keep f4 hap).later b, heap_alloc_new W _, f2.later b, hb.trans (b.mono hb.size)⟩
set_option maxRecDepth 100000 in
set_option maxHeartbeats 8000000 in
theorem walk_BoardOrder (w : World) (u : Int) (hu : -9223372036854775808 ≤ u ∧ u ≤ 9223372036854775807) (la : Option Addr) (ln lc : Nat) (l : List Sp) (hl : SlS w la ln lc l) (o : {q : OpV // OpOk q}) :
    Calls Try.prog 5 #[.int .i64 u, .slice la ln lc, .agg (opC o.1)] w fun e w' => e = .returned (.bool true) ∧ Below w.heap.size w w' := by
  obtain ⟨o, hoo⟩ := o
  dsimp only
  have HO := Lib.hid (heap_alloc_new w (opO o))
  have hb := bal (w := w) (opO o)
  have hle := hl.le
  have hmost := hl.most
  have hlen := hl.len
  unfold maxLen at hmost
  have HC := Lib.hid hl.cells
  have HOO := Lib.hid hoo
  clear hl hoo
  by_cases hr : 0 ≤ u ∧ u ≤ 4611686018427387904
  case neg =>
    have HNB := Lib.hid (bnew_bad hr)
    clear HC hr
    go_enter Try.func5, Try.ntmps5
    go_wp2_with (first
      | (go_at_call 7; (with_reducible refine (known_w hb).mono ?_); clear hb; rintro e w1 ⟨rfl, hb⟩)
      | (go_at_call 8; (with_reducible refine (HNB.out _).mono ?_); rintro e w1 ⟨rfl, rfl⟩))
    go_ret
    exact ⟨rfl, hb⟩
  case pos =>
  obtain ⟨u0, u1⟩ := hr
  have HN := Lib.hid (fun X => bnew_ok u0 u1 X)
  by_cases hbig : 4611686018427322368 < u
  case pos =>
    clear HC
    go_enter Try.func5, Try.ntmps5
    go_wp2_with (first
      | (go_at_call 7; (with_reducible refine (known_w hb).mono ?_); clear hb; rintro e w1 ⟨rfl, hb⟩)
      | (go_at_call 8; (with_reducible refine (HN.out _).mono ?_); rintro e w2 ⟨x, tb, rfl, hd, hb2, hx, htb⟩; replace hb := hb.trans (hb2.mono hb.size); clear hb2 hd hx htb))
    go_ret
    exact ⟨rfl, hb⟩
  case neg =>
  have hws : IntKind.i64.wrap (u + 65536) = u + 65536 := IntWalk.i64_in _ (by omega)
  have HSN : Hid (sentN (newS u) (u + 65536) = (0, ⟨u, u + 65536, []⟩)) := Lib.hid (by unfold sentN newS; rw [if_neg (by simp only; omega)])
  have HS0 : Hid (BOk ⟨u, u + 65536, []⟩) := Lib.hid (by have := sent_ok (bok_new u0 u1) (u + 65536); rw [HSN.out] at this; exact this)
  have HST := Lib.hid (fun W x tb (h : BdAt W x tb (newS u)) => show Calls Try.prog 15 #[.pointer (some ⟨x, 0, none⟩), .int .i64 (u + 65536)] W fun e w' => e = .returned (.int .i64 0) ∧ BdAt w' x tb ⟨u, u + 65536, []⟩ ∧ Kept [x, tb] W w' from by have := bsent_any h (u + 65536) (by omega); rw [HSN.out] at this; exact this)
  clear HSN
  generalize hs0 : (⟨u, u + 65536, []⟩ : Bs) = s0 at *
  go_enter Try.func5, Try.ntmps5
  go_upto_region 7 with (first
    | (go_at_call 7; (with_reducible refine (known_any _).mono ?_); rintro e w1 ⟨rfl, hb1⟩; have HOB := Lib.hid ((hb1.block _ (lt_of_block HO.out)).trans HO.out); replace hb := hb.trans (hb1.mono hb.size); clear hb1)
    | (go_at_call 8; first
      | ((with_reducible refine (HN.out w1).mono ?_); rintro e w2 ⟨x, tb, rfl, hd, hb2, hx, htb⟩; have hob2 := (hb2.block _ (lt_of_block HOB.out)).trans HOB.out)
      | ((with_reducible refine (HN.out _).mono ?_); rintro e w3 ⟨y, ub, rfl, hd3, hb3, hy, hub⟩)))
  have P0 : PB w x tb y ub (newS u) (newS u) w.heap.size o w3 :=
    have h12 := hb.trans (hb2.mono hb.size)
    have hlt := hd.lt
    ⟨hd.later hb3, hd3, by omega, (hb3.block _ (lt_of_block hob2)).trans hob2, h12.trans (hb3.mono h12.size), by have := hb.size; have := h12.size; omega⟩
  clear hd hb2 hx htb hd3 hb3 hy hub hob2 hb HOB HN HO
  generalize w.heap.size = O at P0
  go_upto_region 9 with (go_at_call 15; first
    | ((with_reducible refine (HST.out _ _ _ P0.a).mono ?_); rintro e w4 ⟨rfl, hd4, hk4⟩; have P1 := P0.putA hd4 hk4; clear P0 hd4 hk4)
    | ((with_reducible refine (HST.out _ _ _ P1.b).mono ?_); rintro e w5 ⟨rfl, hd5, hk5⟩; have P2 := P1.putB hd5 hk5; clear P1 hd5 hk5))
  clear HST
  go_cut [11] (fun s11 wx => ∃ N : Nat, s11 = .int .i64 N ∧ N ≤ ln ∧ N ≤ 100 ∧ PB w x tb y ub s0 s0 O o wx)
  case first =>
    have HP := Lib.hid P2
    by_cases h100 : (100 : Int) < (ln : Int)
    · go_wp2_with fail
      all_goals first
        | (exfalso; omega)
        | (go_meet; exact ⟨100, rfl, by omega, by omega, HP.out⟩)
    · go_wp2_with fail
      all_goals first
        | (exfalso; omega)
        | (go_meet; exact ⟨ln, rfl, by omega, by omega, HP.out⟩)
  case rest =>
  clear P2
  obtain ⟨N, rfl, hN1, hN2, P⟩ := hcut
  generalize wc = V at *
  obtain ⟨m, hm⟩ : ∃ m, m = l.take N := ⟨_, rfl⟩
  have hml : m.length = N := by rw [hm, List.length_take]; omega
  have hmg : ∀ k, k < N → m.getD k (0, 0) = l.getD k (0, 0) := fun k hk => by rw [hm, List.getD_eq_getElem?_getD, List.getD_eq_getElem?_getD, List.getElem?_take_of_lt hk]
  have HM := Lib.hid (And.intro hml hmg)
  clear hm hml hmg
  go_wp2_with fail
  go_loopw [12] (fun i wr => ∃ k : Nat, i = .int .i64 k ∧ k ≤ N ∧ PB w x tb y ub (foldS s0 (m.take k)) (foldS s0 (m.reverse.take k)) O o wr) (fun i _ => N - (intOf i).toNat)
  case atStart => exact ⟨0, rfl, by omega, P⟩
  case round =>
    clear P
    obtain ⟨k, rfl, hk, P⟩ := hrel
    by_cases hlt : k < N
    case pos =>
      obtain ⟨Bo, off, rfl, hc⟩ := HC.out (by omega)
      obtain ⟨j, hj⟩ : ∃ j : Nat, j = N - 1 - k := ⟨_, rfl⟩
      have hjl : j < N := by omega
      have hji : (N : Int) - 1 - (k : Int) = (j : Int) := by omega
      have hw1 : IntKind.i64.wrap ((N : Int) - 1) = (N : Int) - 1 := IntWalk.i64_in _ (by omega)
      have hw2 : IntKind.i64.wrap ((N : Int) - 1 - (k : Int)) = (j : Int) := by rw [hji]; exact IntWalk.i64_in _ (by omega)
      have HA : Hid (foldS s0 (m.take (k + 1)) = (sackN (foldS s0 (m.take k)) (l.getD k (0, 0))).2.2) := Lib.hid (by rw [fold_take (by rw [HM.out.1]; exact hlt), HM.out.2 k hlt])
      have HB : Hid (foldS s0 (m.reverse.take (k + 1)) = (sackN (foldS s0 (m.reverse.take k)) (l.getD j (0, 0))).2.2) := Lib.hid (by rw [fold_take (by rw [List.length_reverse, HM.out.1]; exact hlt), rev_getD HM.out.1 hlt, ← hj, HM.out.2 j hjl])
      obtain ⟨c0, c1⟩ := hc k (by omega)
      obtain ⟨d0, d1⟩ := hc j (by omega)
      have HD := Lib.hid (fun W (h : Below w.heap.size w W) => show (W.cell? ⟨Bo, off + k * 2, none⟩ = some (.int .i64 (l.getD k (0, 0)).1) ∧ W.cell? ⟨Bo, off + k * 2 + 1, none⟩ = some (.int .i64 (l.getD k (0, 0)).2)) ∧ W.cell? ⟨Bo, off + j * 2, none⟩ = some (.int .i64 (l.getD j (0, 0)).1) ∧ W.cell? ⟨Bo, off + j * 2 + 1, none⟩ = some (.int .i64 (l.getD j (0, 0)).2) from
        ⟨⟨(h.cell (p := ⟨Bo, off + k * 2, none⟩) (World.block_lt_of_cell? w _ c0)).trans c0, (h.cell (p := ⟨Bo, off + k * 2 + 1, none⟩) (World.block_lt_of_cell? w _ c1)).trans c1⟩, (h.cell (p := ⟨Bo, off + j * 2, none⟩) (World.block_lt_of_cell? w _ d0)).trans d0, (h.cell (p := ⟨Bo, off + j * 2 + 1, none⟩) (World.block_lt_of_cell? w _ d1)).trans d1⟩)
      clear c0 c1 d0 d1 hc hj hji
      generalize hs2 : foldS s0 (m.take (k + 1)) = sa2 at *
      generalize hs3 : foldS s0 (m.reverse.take (k + 1)) = sb2 at *
      have HE2 := Lib.hid hs2
      have HE3 := Lib.hid hs3
      clear hs2 hs3
      generalize foldS s0 (m.take k) = sa at *
      generalize foldS s0 (m.reverse.take k) = sb at *
      generalize l.getD k (0, 0) = y1 at *
      generalize l.getD j (0, 0) = y2 at *
      have HSA := Lib.hid (fun W (q : BdAt W x tb sa) => show Calls Try.prog 17 #[.pointer (some ⟨x, 0, none⟩), spV y1] W fun e w' => e = .returned (.tuple #[.int .i64 (sackN sa y1).1, .int .i64 (sackN sa y1).2.1]) ∧ BdAt w' x tb sa2 ∧ Kept [x, tb] W w' from by rw [HA.out]; exact bsack_any q y1)
      have HSB := Lib.hid (fun W (q : BdAt W y ub sb) => show Calls Try.prog 17 #[.pointer (some ⟨y, 0, none⟩), spV y2] W fun e w' => e = .returned (.tuple #[.int .i64 (sackN sb y2).1, .int .i64 (sackN sb y2).2.1]) ∧ BdAt w' y ub sb2 ∧ Kept [y, ub] W w' from by rw [HB.out]; exact bsack_any q y2)
      generalize sackN sa y1 = ra at *
      generalize sackN sb y2 = rb at *
      obtain ⟨⟨c0, c1⟩, d0, d1⟩ := HD.out _ P.below
      go_wp2_with (go_at_call 17; first
        | ((with_reducible refine (HSA.out _ P.a).mono ?_); rintro e w6 ⟨rfl, hd6, hk6⟩; have P1 := P.putA hd6 hk6; clear P hd6 hk6 c0 c1 d0 d1; obtain ⟨⟨c0, c1⟩, d0, d1⟩ := HD.out _ P1.below)
        | ((with_reducible refine (HSB.out _ P1.b).mono ?_); rintro e w7 ⟨rfl, hd7, hk7⟩; have P2 := P1.putB hd7 hk7; clear P1 hd7 hk7 c0 c1 d0 d1))
      go_roundw
      case rel => exact ⟨k + 1, by go_num, by omega, by rw [HE2.out, HE3.out]; exact P2⟩
      case measure => simp [intOf]; omega
    case neg =>
      obtain rfl : k = N := by omega
      have hfr := fold_rev s0 m HS0.out (by rw [← hs0]; simp only [List.length_nil]; have := HM.out.1; omega)
      have hfs := fold_step m s0 HS0.out (by rw [← hs0]; simp only [List.length_nil]; have := HM.out.1; omega)
      rw [List.take_of_length_le (by rw [HM.out.1]; exact Nat.le_refl _), List.take_of_length_le (by rw [List.length_reverse, HM.out.1]; exact Nat.le_refl _), hfr] at P
      obtain ⟨L, hL⟩ : ∃ L, foldS s0 m = ⟨u, u + 65536, L⟩ := by
        obtain ⟨_, e1, e2, _⟩ := hfs
        clear hfr P
        generalize foldS s0 m = f at *
        obtain ⟨fa, fb, fc⟩ := f
        rw [← hs0] at e1 e2
        simp only at e1 e2
        exact ⟨fc, by rw [e1, e2]⟩
      rw [hL] at P
      clear hfr hfs hL HS0 HC HM
      clear hs0
      go_upto_region 17 with (go_at_call 22; first
        | ((with_reducible refine (bsame_any P.a P.b).mono ?_); rintro e w6 ⟨rfl, h6⟩; have P1 := P.later h6; clear P h6)
        | ((with_reducible refine (bsame_any P1.b P1.a).mono ?_); rintro e w7 ⟨rfl, h7⟩; have P2 := P1.later h7; clear P1 h7))
      go_upto_region 19 with (first
        | (go_at_call 23; (with_reducible refine (bclone_any P2.a).mono ?_); rintro e w8 ⟨z, zb, rfl, hc8, h8, hz, hzb⟩; have P3 := P2.later h8; have hzx : x ≠ z ∧ tb ≠ zb := by { have := P2.a.lt; omega }; have hzw : w.heap.size ≤ z ∧ w.heap.size ≤ zb := by { have := P2.below.size; omega }; clear P2 h8 hz hzb)
        | (go_at_call 24; (with_reducible refine (btold_any P3.a.o).mono ?_); rintro e w9 ⟨v, rfl, ho9, h9⟩; have hin := fun c hc => own_in ho9 (k := c) hc; obtain ⟨ta, tc, rfl, hS9, hbk⟩ := sls_of_own ho9; have P4 := P3.later h9; have hc9 := hc8.later h9; have hapt : Apt ta L.length [z, zb] := (fun c hc h0 => by { have q1 := (hin _ (hbk c hc)).2; have q2 := hc8.lt; simp only [List.mem_cons, List.not_mem_nil, or_false]; omega }); clear ho9 hin hbk h9 hc8 P3))
      have P5 := P4.later (bal (rO ⟨u, u + 65536, L⟩ ta L.length tc))
      have hc5 := hc9.later (bal (rO ⟨u, u + 65536, L⟩ ta L.length tc))
      have hS5 := hS9.later (bal (rO ⟨u, u + 65536, L⟩ ta L.length tc))
      have hG := heap_alloc_new w9 (rO ⟨u, u + 65536, L⟩ ta L.length tc)
      clear P4 hc9 hS9
      generalize w9.alloc (rO ⟨u, u + 65536, L⟩ ta L.length tc) = V at *
      generalize w9.heap.size = G at *
      have HDO := Lib.hid (does_any hc5 hS5 hapt HOO.out)
      have HAP := Lib.hid hapt
      unfold DoesP at HDO
      generalize hst : stp ⟨u, u + 65536, L⟩ o = r at *
      clear hst
      obtain ⟨cnt, s'⟩ := r
      dsimp only at HDO
      have HQ := Lib.hid (And.intro P5 (And.intro hc5 (And.intro hS5 hG)))
      obtain ⟨g0, g1, g2⟩ := st_of hG
      obtain ⟨o0, o1, o2, o3⟩ := op_cs P5.ob
      clear P5 hc5 hS5 hG hapt
      go_upto_region 20 with (go_at_call 9; (with_reducible refine HDO.out.mono ?_); rintro e wA ⟨a', n', cap', rfl, hf⟩; have Q0 := qb_new HQ.out.1 HQ.out.2.1 HQ.out.2.2.1 HQ.out.2.2.2 HAP.out hzx hzw hf; clear g0 g1 g2 o0 o1 o2 o3 hf HDO HAP HQ)
      generalize wA.alloc (rO s' a' n' cap') = VA at *
      generalize wA.heap.size = H at *
      obtain ⟨g0, g1, g2⟩ := st_of Q0.gb
      obtain ⟨q0, q1, q2⟩ := st_of Q0.hb
      go_wp2_with (first
        | (go_at_call 10; first
          | ((with_reducible refine (equal_any Q0.c Q0.hrow).mono ?_); rintro e wB ⟨rfl, hB⟩; have Q1 := Q0.later hB; clear Q0 hB g0 g1 g2 q0 q1 q2; obtain ⟨g0, g1, g2⟩ := st_of Q1.gb)
          | ((with_reducible refine (equal_any Q1.a Q1.grow).mono ?_); rintro e wC ⟨rfl, hB⟩; have Q2 := Q1.later hB; clear Q1 hB g0 g1 g2))
        | (go_at_call 7; (with_reducible refine (known_w Q2.below).mono ?_); rintro e wD ⟨rfl, hD⟩))
      go_ret
      exact ⟨rfl, hD⟩
end Go.Proofs.Ytegbkeichkifnaa.bd
