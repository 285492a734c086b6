/-
  Structs that came in, and slices of them (written by gen_open.py).
-/
import Derived.Test.YtpoifoanigpncaaProg
import Derived.Test.YtpoifoanigpncaaOpen
import Derived.Test.YtpoifoanigpncaaRakX
namespace Go.Proofs.Ytpoifoanigpncaa.rk
open Go.RowKit aid mem opn Go.ChangeShapes Go.WideShapes Go.ChangeAt
set_option linter.unusedVariables false
set_option linter.unusedSimpArgs false

structure OpV where
  kind : Int
  r : bk.Rc
  now : Int
  least : Int
  has : Bool
  echo : Bool × Int
  a : Int
  b : Int
instance : Inhabited OpV := ⟨⟨0, default, 0, 0, false, (false, 0), 0, 0⟩⟩
theorem cells_bool : Try.prog.cellsOf 4 = 1 := by kernel_rfl
theorem cells_i64 : Try.prog.cellsOf 3 = 1 := by kernel_rfl
theorem cells_u32 : Try.prog.cellsOf 27 = 1 := by kernel_rfl
theorem cells_u8 : Try.prog.cellsOf 5 = 1 := by kernel_rfl
theorem cells_spn : Try.prog.cellsOf 24 = 2 := by kernel_rfl
theorem cells_op : Try.prog.cellsOf 31 = 15 := by kernel_rfl
theorem cells_rec : Try.prog.cellsOf 26 = 7 := by kernel_rfl
theorem cells_echo : Try.prog.cellsOf 29 = 2 := by kernel_rfl
def RcOk (r : bk.Rc) : Prop := (-9223372036854775808 ≤ r.f ∧ r.f ≤ 9223372036854775807) ∧ (-9223372036854775808 ≤ r.t ∧ r.t ≤ 9223372036854775807) ∧ (-9223372036854775808 ≤ r.sent ∧ r.sent ≤ 9223372036854775807) ∧ (-9223372036854775808 ≤ r.order ∧ r.order ≤ 9223372036854775807) ∧ (-9223372036854775808 ≤ r.times ∧ r.times ≤ 9223372036854775807) ∧ (-9223372036854775808 ≤ r.out ∧ r.out ≤ 9223372036854775807)
def OpOk (q : OpV) : Prop := (0 ≤ q.kind ∧ q.kind ≤ 255) ∧ (-9223372036854775808 ≤ q.now ∧ q.now ≤ 9223372036854775807) ∧ (-9223372036854775808 ≤ q.least ∧ q.least ≤ 9223372036854775807) ∧ (-9223372036854775808 ≤ q.a ∧ q.a ≤ 9223372036854775807) ∧ (-9223372036854775808 ≤ q.b ∧ q.b ≤ 9223372036854775807) ∧ RcOk q.r ∧ (0 ≤ q.echo.2 ∧ q.echo.2 ≤ 4294967295)
def OpIs (cs : List Value) (q : OpV) : Prop := cs = [.int .u8 q.kind, .int .i64 q.r.f, .int .i64 q.r.t, .int .i64 q.r.sent, .int .i64 q.r.order, .int .i64 q.r.times, .int .i64 q.r.out, .bool q.r.lost, .int .i64 q.now, .int .i64 q.least, .bool q.has, .bool q.echo.1, .int .u32 q.echo.2, .int .i64 q.a, .int .i64 q.b] ∧ OpOk q
/-- they lie where the slice leads -/
structure OpA (w : World) (a : Option Addr) (n cap : Nat) (l : List OpV) : Prop where
  len : l.length = n
  le : n ≤ cap
  most : cap ≤ maxLen
  cells : 0 < n → ∃ b off, a = some ⟨b, off, none⟩ ∧ ∀ i, i < n → w.cell? ⟨b, off + i * 15, none⟩ = some (.int .u8 (l.getD i default).kind) ∧ w.cell? ⟨b, off + i * 15 + 1, none⟩ = some (.int .i64 (l.getD i default).r.f) ∧ w.cell? ⟨b, off + i * 15 + 2, none⟩ = some (.int .i64 (l.getD i default).r.t) ∧ w.cell? ⟨b, off + i * 15 + 3, none⟩ = some (.int .i64 (l.getD i default).r.sent) ∧ w.cell? ⟨b, off + i * 15 + 4, none⟩ = some (.int .i64 (l.getD i default).r.order) ∧ w.cell? ⟨b, off + i * 15 + 5, none⟩ = some (.int .i64 (l.getD i default).r.times) ∧ w.cell? ⟨b, off + i * 15 + 6, none⟩ = some (.int .i64 (l.getD i default).r.out) ∧ w.cell? ⟨b, off + i * 15 + 7, none⟩ = some (.bool (l.getD i default).r.lost) ∧ w.cell? ⟨b, off + i * 15 + 8, none⟩ = some (.int .i64 (l.getD i default).now) ∧ w.cell? ⟨b, off + i * 15 + 9, none⟩ = some (.int .i64 (l.getD i default).least) ∧ w.cell? ⟨b, off + i * 15 + 10, none⟩ = some (.bool (l.getD i default).has) ∧ w.cell? ⟨b, off + i * 15 + 11, none⟩ = some (.bool (l.getD i default).echo.1) ∧ w.cell? ⟨b, off + i * 15 + 12, none⟩ = some (.int .u32 (l.getD i default).echo.2) ∧ w.cell? ⟨b, off + i * 15 + 13, none⟩ = some (.int .i64 (l.getD i default).a) ∧ w.cell? ⟨b, off + i * 15 + 14, none⟩ = some (.int .i64 (l.getD i default).b) ∧ OpOk (l.getD i default)
section
variable {H : Type} {enc : TypeId × Value → H} {w : World} {base : Nat}
set_option maxRecDepth 100000 in
theorem span_in (n : Nat) (cs : List Value) (d : DataW H) (p : List MemPlace)
    (h : DataW.trod enc Try.prog w base (fun _ => true) true n 24 cs = some (d, p)) : ∃ q : Int × Int, cs = [.int .i64 q.1, .int .i64 q.2] ∧ (-9223372036854775808 ≤ q.1 ∧ q.1 ≤ 9223372036854775807 ∧ -9223372036854775808 ≤ q.2 ∧ q.2 ≤ 9223372036854775807) := by
  obtain ⟨xs, m, _, hx, hl, hxl, hf⟩ := DataW.trod_struct Try.underlying24 h
  rw [cells_spn] at hl
  have h0 := hf 0 _ rfl
  have h1 := hf 1 _ rfl
  match cs, hl, xs, hxl with
  | [c0, c1], _, [x0, x1], _ =>
    simp [cells_i64] at h0 h1
    obtain ⟨k, hk, hk2, hkw⟩ := DataW.trod_int Try.underlying3 h0
    obtain ⟨q, hq, hq2, hqw⟩ := DataW.trod_int Try.underlying3 h1
    injection hk with hk _
    injection hq with hq _
    subst hk hq
    exact ⟨(k, q), rfl, (bounds_i64 hkw).1, (bounds_i64 hkw).2, (bounds_i64 hqw).1, (bounds_i64 hqw).2⟩
set_option maxRecDepth 100000 in
theorem rec_in (n : Nat) (cs : List Value) (d : DataW H) (p : List MemPlace)
    (h : DataW.trod enc Try.prog w base (fun _ => true) true n 26 cs = some (d, p)) : ∃ r : bk.Rc, cs = [.int .i64 r.f, .int .i64 r.t, .int .i64 r.sent, .int .i64 r.order, .int .i64 r.times, .int .i64 r.out, .bool r.lost] ∧ RcOk r := by
  obtain ⟨xs, m, _, hx, hl, hxl, hf⟩ := DataW.trod_struct Try.underlying26 h
  rw [cells_rec] at hl
  have h0 := hf 0 _ rfl
  have h1 := hf 1 _ rfl
  have h2 := hf 2 _ rfl
  have h3 := hf 3 _ rfl
  have h4 := hf 4 _ rfl
  have h5 := hf 5 _ rfl
  match cs, hl, xs, hxl with
  | [c0, c1, c2, c3, c4, c5, c6], _, [x0, x1, x2, x3, x4, x5], _ =>
    simp [cells_i64, cells_bool, cells_spn] at h0 h1 h2 h3 h4 h5
    obtain ⟨v0, hv0, hb0⟩ := span_in _ _ _ _ h0
    injection hv0 with hv0a hv0
    injection hv0 with hv0b _
    obtain ⟨v1, hv1, _, hw1⟩ := DataW.trod_int Try.underlying3 h1
    injection hv1 with hv1 _
    obtain ⟨v2, hv2, _, hw2⟩ := DataW.trod_int Try.underlying3 h2
    injection hv2 with hv2 _
    obtain ⟨v3, hv3, _, hw3⟩ := DataW.trod_int Try.underlying3 h3
    injection hv3 with hv3 _
    obtain ⟨v4, hv4, _, hw4⟩ := DataW.trod_int Try.underlying3 h4
    injection hv4 with hv4 _
    obtain ⟨v5, hv5, _⟩ := DataW.trod_bool Try.underlying4 h5
    injection hv5 with hv5 _
    subst hv0a hv0b hv1 hv2 hv3 hv4 hv5
    exact ⟨⟨v0.1, v0.2, v1, v2, v3, v4, v5⟩, rfl, ⟨hb0.1, hb0.2.1⟩, ⟨hb0.2.2.1, hb0.2.2.2⟩, bounds_i64 hw1, bounds_i64 hw2, bounds_i64 hw3, bounds_i64 hw4⟩
set_option maxRecDepth 100000 in
theorem echo_in (n : Nat) (cs : List Value) (d : DataW H) (p : List MemPlace)
    (h : DataW.trod enc Try.prog w base (fun _ => true) true n 29 cs = some (d, p)) : ∃ r : Bool × Int, cs = [.bool r.1, .int .u32 r.2] ∧ (0 ≤ r.2 ∧ r.2 ≤ 4294967295) := by
  obtain ⟨xs, m, _, hx, hl, hxl, hf⟩ := DataW.trod_struct Try.underlying29 h
  rw [cells_echo] at hl
  have h0 := hf 0 _ rfl
  have h1 := hf 1 _ rfl
  match cs, hl, xs, hxl with
  | [c0, c1], _, [x0, x1], _ =>
    simp [cells_bool, cells_u32] at h0 h1
    obtain ⟨v0, hv0, _⟩ := DataW.trod_bool Try.underlying4 h0
    injection hv0 with hv0 _
    obtain ⟨v1, hv1, _, hw1⟩ := DataW.trod_int Try.underlying27 h1
    injection hv1 with hv1 _
    subst hv0 hv1
    exact ⟨(v0, v1), rfl, bounds_u32 hw1⟩
set_option maxRecDepth 100000 in
theorem op_of (n : Nat) (cs : List Value) (d : DataW H) (p : List MemPlace)
    (h : DataW.trod enc Try.prog w base (fun _ => true) true n 31 cs = some (d, p)) : ∃ q : OpV, OpIs cs q ∧ True := by
  obtain ⟨xs, m, _, hx, hl, hxl, hf⟩ := DataW.trod_struct Try.underlying31 h
  rw [cells_op] at hl
  have h0 := hf 0 _ rfl
  have h1 := hf 1 _ rfl
  have h2 := hf 2 _ rfl
  have h3 := hf 3 _ rfl
  have h4 := hf 4 _ rfl
  have h5 := hf 5 _ rfl
  have h6 := hf 6 _ rfl
  have h7 := hf 7 _ rfl
  match cs, hl, xs, hxl with
  | [c0, c1, c2, c3, c4, c5, c6, c7, c8, c9, c10, c11, c12, c13, c14], _, [x0, x1, x2, x3, x4, x5, x6, x7], _ =>
    simp [cells_bool, cells_i64, cells_u32, cells_u8, cells_spn, cells_rec, cells_echo] at h0 h1 h2 h3 h4 h5 h6 h7
    obtain ⟨v0, hv0, _, hw0⟩ := DataW.trod_int Try.underlying5 h0
    injection hv0 with hv0 _
    obtain ⟨v1, hv1, hb1⟩ := rec_in _ _ _ _ h1
    simp only [List.cons.injEq, and_true] at hv1
    obtain ⟨hv1_0, hv1_1, hv1_2, hv1_3, hv1_4, hv1_5, hv1_6⟩ := hv1
    obtain ⟨v2, hv2, _, hw2⟩ := DataW.trod_int Try.underlying3 h2
    injection hv2 with hv2 _
    obtain ⟨v3, hv3, _, hw3⟩ := DataW.trod_int Try.underlying3 h3
    injection hv3 with hv3 _
    obtain ⟨v4, hv4, _⟩ := DataW.trod_bool Try.underlying4 h4
    injection hv4 with hv4 _
    obtain ⟨v5, hv5, hb5⟩ := echo_in _ _ _ _ h5
    simp only [List.cons.injEq, and_true] at hv5
    obtain ⟨hv5_0, hv5_1⟩ := hv5
    obtain ⟨v6, hv6, _, hw6⟩ := DataW.trod_int Try.underlying3 h6
    injection hv6 with hv6 _
    obtain ⟨v7, hv7, _, hw7⟩ := DataW.trod_int Try.underlying3 h7
    injection hv7 with hv7 _
    subst hv0 hv1_0 hv1_1 hv1_2 hv1_3 hv1_4 hv1_5 hv1_6 hv2 hv3 hv4 hv5_0 hv5_1 hv6 hv7
    exact ⟨⟨v0, v1, v2, v3, v4, v5, v6, v7⟩, ⟨rfl, bounds_u8 hw0, bounds_i64 hw2, bounds_i64 hw3, bounds_i64 hw6, bounds_i64 hw7, hb1, hb5⟩, trivial⟩
theorem opa_of_els {a : Option Addr} {len cap : Nat} {l : List OpV} (h : ElA OpIs 15 w a len cap l) : OpA w a len cap l := by
  refine ⟨h.len, h.le, h.most, fun h0 => ?_⟩
  obtain ⟨b, off, ha, hc⟩ := h.cells h0
  refine ⟨b, off, ha, fun i hi => ?_⟩
  have hil : i < l.length := by rw [h.len]; exact hi
  obtain ⟨cs, hR, _, hj⟩ := hc i hil
  have hg : l.getD i default = l[i] := by simp [List.getD, hil]
  obtain ⟨rfl, hok⟩ := hR
  rw [hg]
  have h0 := hj 0 (by omega)
  have h1 := hj 1 (by omega)
  have h2 := hj 2 (by omega)
  have h3 := hj 3 (by omega)
  have h4 := hj 4 (by omega)
  have h5 := hj 5 (by omega)
  have h6 := hj 6 (by omega)
  have h7 := hj 7 (by omega)
  have h8 := hj 8 (by omega)
  have h9 := hj 9 (by omega)
  have h10 := hj 10 (by omega)
  have h11 := hj 11 (by omega)
  have h12 := hj 12 (by omega)
  have h13 := hj 13 (by omega)
  have h14 := hj 14 (by omega)
  exact ⟨by simpa using h0, by simpa [Nat.add_assoc] using h1, by simpa [Nat.add_assoc] using h2, by simpa [Nat.add_assoc] using h3, by simpa [Nat.add_assoc] using h4, by simpa [Nat.add_assoc] using h5, by simpa [Nat.add_assoc] using h6, by simpa [Nat.add_assoc] using h7, by simpa [Nat.add_assoc] using h8, by simpa [Nat.add_assoc] using h9, by simpa [Nat.add_assoc] using h10, by simpa [Nat.add_assoc] using h11, by simpa [Nat.add_assoc] using h12, by simpa [Nat.add_assoc] using h13, by simpa [Nat.add_assoc] using h14, hok⟩
theorem open_ops {a : Option Addr} {len cap : Nat} {d : DataW H} {p : List MemPlace}
    (h : ∃ fuel, DataW.trod enc Try.prog w base (fun _ => true) true fuel 22 [.slice a len cap] = some (d, p)) :
    ∃ l : List OpV, OpA w a len cap l ∧ True := by
  obtain ⟨l, hl, _⟩ := open_els (R := OpIs) (D := fun _ _ => True) Try.underlying22 (by rw [cells_op]; omega) h op_of
  rw [cells_op] at hl
  exact ⟨l, opa_of_els hl, trivial⟩
set_option maxRecDepth 100000 in
theorem open_op {b0 : Nat} {v : Value} {d : DataW H} {p : List MemPlace} (hv : Value.okWide Try.prog w .any b0 31 v)
    (hk : DataW.Trod enc Try.prog w base (fun _ => true) true 31 v d p) : ∃ s : {q : OpV // OpOk q}, v = .agg #[.int .u8 s.1.kind, .int .i64 s.1.r.f, .int .i64 s.1.r.t, .int .i64 s.1.r.sent, .int .i64 s.1.r.order, .int .i64 s.1.r.times, .int .i64 s.1.r.out, .bool s.1.r.lost, .int .i64 s.1.now, .int .i64 s.1.least, .bool s.1.has, .bool s.1.echo.1, .int .u32 s.1.echo.2, .int .i64 s.1.a, .int .i64 s.1.b] := by
  obtain ⟨cs, rfl, hsz⟩ := okWide_struct Try.underlying31 hv
  obtain ⟨fuel, h⟩ := hk
  obtain ⟨q, ⟨hq, hok⟩, _⟩ := op_of fuel _ d p h
  have : cs = #[.int .u8 q.kind, .int .i64 q.r.f, .int .i64 q.r.t, .int .i64 q.r.sent, .int .i64 q.r.order, .int .i64 q.r.times, .int .i64 q.r.out, .bool q.r.lost, .int .i64 q.now, .int .i64 q.least, .bool q.has, .bool q.echo.1, .int .u32 q.echo.2, .int .i64 q.a, .int .i64 q.b] := by
    apply Array.toList_inj.1
    simpa [Value.cells] using hq
  subst this
  exact ⟨⟨q, hok⟩, rfl⟩
end
end Go.Proofs.Ytpoifoanigpncaa.rk
