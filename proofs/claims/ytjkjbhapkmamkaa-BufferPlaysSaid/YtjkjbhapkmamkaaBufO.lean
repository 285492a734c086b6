/-
  Structs that came in, and slices of them (written by gen_open.py).
-/
import Derived.Test.YtjkjbhapkmamkaaProg
import Derived.Test.YtjkjbhapkmamkaaOpen
import Derived.Test.YtjkjbhapkmamkaaBufX
namespace Go.Proofs.Ytjkjbhapkmamkaa.bf
open Go.RowKit aid mem opn Go.ChangeShapes Go.WideShapes Go.ChangeAt
set_option linter.unusedVariables false
set_option linter.unusedSimpArgs false

structure OpV where
  kind : Int
  b : Option Addr × Nat × Nat × List Int
  t : Int
  s : Int × Int
instance : Inhabited OpV := ⟨⟨0, (none, 0, 0, []), 0, (0, 0)⟩⟩
theorem cells_i64 : Try.prog.cellsOf 3 = 1 := by kernel_rfl
theorem cells_u8 : Try.prog.cellsOf 5 = 1 := by kernel_rfl
theorem cells_spn : Try.prog.cellsOf 25 = 2 := by kernel_rfl
theorem cells_op : Try.prog.cellsOf 27 = 5 := by kernel_rfl
theorem cells_bts : Try.prog.cellsOf 23 = 1 := by kernel_rfl
def OpOk (w : World) (q : OpV) : Prop := (0 ≤ q.kind ∧ q.kind ≤ 255) ∧ (-9223372036854775808 ≤ q.t ∧ q.t ≤ 9223372036854775807) ∧ (-9223372036854775808 ≤ q.s.1 ∧ q.s.1 ≤ 9223372036854775807 ∧ -9223372036854775808 ≤ q.s.2 ∧ q.s.2 ≤ 9223372036854775807) ∧ SlA .u8 w q.b.1 q.b.2.1 q.b.2.2.1 q.b.2.2.2
def OpIs (w : World) (cs : List Value) (q : OpV) : Prop := cs = [.int .u8 q.kind, .slice q.b.1 q.b.2.1 q.b.2.2.1, .int .i64 q.t, .int .i64 q.s.1, .int .i64 q.s.2] ∧ OpOk w q
/-- they lie where the slice leads -/
structure OpA (w : World) (a : Option Addr) (n cap : Nat) (l : List OpV) : Prop where
  len : l.length = n
  le : n ≤ cap
  most : cap ≤ maxLen
  cells : 0 < n → ∃ b off, a = some ⟨b, off, none⟩ ∧ ∀ i, i < n → w.cell? ⟨b, off + i * 5, none⟩ = some (.int .u8 (l.getD i default).kind) ∧ w.cell? ⟨b, off + i * 5 + 1, none⟩ = some (.slice (l.getD i default).b.1 (l.getD i default).b.2.1 (l.getD i default).b.2.2.1) ∧ w.cell? ⟨b, off + i * 5 + 2, none⟩ = some (.int .i64 (l.getD i default).t) ∧ w.cell? ⟨b, off + i * 5 + 3, none⟩ = some (.int .i64 (l.getD i default).s.1) ∧ w.cell? ⟨b, off + i * 5 + 4, none⟩ = some (.int .i64 (l.getD i default).s.2) ∧ OpOk w (l.getD i default)
section
variable {H : Type} {enc : TypeId × Value → H} {w : World} {base : Nat}
set_option maxRecDepth 100000 in
theorem span_in (n : Nat) (cs : List Value) (d : DataW H) (p : List MemPlace)
    (h : DataW.trod enc Try.prog w base (fun _ => true) true n 25 cs = some (d, p)) : ∃ q : Int × Int, cs = [.int .i64 q.1, .int .i64 q.2] ∧ (-9223372036854775808 ≤ q.1 ∧ q.1 ≤ 9223372036854775807 ∧ -9223372036854775808 ≤ q.2 ∧ q.2 ≤ 9223372036854775807) := by
  obtain ⟨xs, m, _, hx, hl, hxl, hf⟩ := DataW.trod_struct Try.underlying25 h
  rw [cells_spn] at hl
  have h0 := hf 0 _ rfl
  have h1 := hf 1 _ rfl
  match cs, hl, xs, hxl with
  | [c0, c1], _, [x0, x1], _ =>
    simp [cells_i64] at h0 h1
    obtain ⟨k, hk, hk2, hkw⟩ := DataW.trod_int Try.underlying3 h0
    obtain ⟨q, hq, hq2, hqw⟩ := DataW.trod_int Try.underlying3 h1
    injection hk with hk _
    injection hq with hq _
    subst hk hq
    exact ⟨(k, q), rfl, (bounds_i64 hkw).1, (bounds_i64 hkw).2, (bounds_i64 hqw).1, (bounds_i64 hqw).2⟩
set_option maxRecDepth 100000 in
theorem op_of (n : Nat) (cs : List Value) (d : DataW H) (p : List MemPlace)
    (h : DataW.trod enc Try.prog w base (fun _ => true) true n 27 cs = some (d, p)) : ∃ q : OpV, OpIs w cs q ∧ True := by
  obtain ⟨xs, m, _, hx, hl, hxl, hf⟩ := DataW.trod_struct Try.underlying27 h
  rw [cells_op] at hl
  have h0 := hf 0 _ rfl
  have h1 := hf 1 _ rfl
  have h2 := hf 2 _ rfl
  have h3 := hf 3 _ rfl
  match cs, hl, xs, hxl with
  | [c0, c1, c2, c3, c4], _, [x0, x1, x2, x3], _ =>
    simp [cells_i64, cells_u8, cells_spn, cells_bts] at h0 h1 h2 h3
    obtain ⟨v0, hv0, _, hw0⟩ := DataW.trod_int Try.underlying5 h0
    injection hv0 with hv0 _
    have key1 : ∃ (a : Option Addr) (len cap : Nat) (l : List Int), c1 = .slice a len cap ∧ SlA .u8 w a len cap l := by
      rcases open_ints Try.underlying23 Try.underlying5 cells_u8 h1 with ⟨hcs, _⟩ | ⟨a, len, cap, zs, hcs, _, hl, hm, hz, _, hcell, hwz⟩
      · injection hcs with hcs _
        exact ⟨none, 0, 0, [], hcs, sl_of_row (.inl ⟨rfl, rfl, rfl, rfl⟩)⟩
      · injection hcs with hcs _
        exact ⟨some a, len, cap, zs.take len, hcs, sl_of_row (.inr ⟨_, rfl, hl, hm, by simpa using hz, hcell, hwz⟩)⟩
    obtain ⟨a1, n1, k1, l1, hv1, hb1⟩ := key1
    obtain ⟨v2, hv2, _, hw2⟩ := DataW.trod_int Try.underlying3 h2
    injection hv2 with hv2 _
    obtain ⟨v3, hv3, hb3⟩ := span_in _ _ _ _ h3
    injection hv3 with hv3a hv3
    injection hv3 with hv3b _
    subst hv0 hv1 hv2 hv3a hv3b
    exact ⟨⟨v0, (a1, n1, k1, l1), v2, v3⟩, ⟨rfl, bounds_u8 hw0, bounds_i64 hw2, hb3, hb1⟩, trivial⟩
theorem opa_of_els {a : Option Addr} {len cap : Nat} {l : List OpV} (h : ElA (OpIs w) 5 w a len cap l) : OpA w a len cap l := by
  refine ⟨h.len, h.le, h.most, fun h0 => ?_⟩
  obtain ⟨b, off, ha, hc⟩ := h.cells h0
  refine ⟨b, off, ha, fun i hi => ?_⟩
  have hil : i < l.length := by rw [h.len]; exact hi
  obtain ⟨cs, hR, _, hj⟩ := hc i hil
  have hg : l.getD i default = l[i] := by simp [List.getD, hil]
  obtain ⟨rfl, hok⟩ := hR
  rw [hg]
  have h0 := hj 0 (by omega)
  have h1 := hj 1 (by omega)
  have h2 := hj 2 (by omega)
  have h3 := hj 3 (by omega)
  have h4 := hj 4 (by omega)
  exact ⟨by simpa using h0, by simpa [Nat.add_assoc] using h1, by simpa [Nat.add_assoc] using h2, by simpa [Nat.add_assoc] using h3, by simpa [Nat.add_assoc] using h4, hok⟩
theorem open_ops {a : Option Addr} {len cap : Nat} {d : DataW H} {p : List MemPlace}
    (h : ∃ fuel, DataW.trod enc Try.prog w base (fun _ => true) true fuel 22 [.slice a len cap] = some (d, p)) :
    ∃ l : List OpV, OpA w a len cap l ∧ True := by
  obtain ⟨l, hl, _⟩ := open_els (R := OpIs w) (D := fun _ _ => True) Try.underlying22 (by rw [cells_op]; omega) h op_of
  rw [cells_op] at hl
  exact ⟨l, opa_of_els hl, trivial⟩
set_option maxRecDepth 100000 in
theorem open_op {b0 : Nat} {v : Value} {d : DataW H} {p : List MemPlace} (hv : Value.okWide Try.prog w .any b0 27 v)
    (hk : DataW.Trod enc Try.prog w base (fun _ => true) true 27 v d p) : ∃ s : {q : OpV // OpOk w q}, v = .agg #[.int .u8 s.1.kind, .slice s.1.b.1 s.1.b.2.1 s.1.b.2.2.1, .int .i64 s.1.t, .int .i64 s.1.s.1, .int .i64 s.1.s.2] := by
  obtain ⟨cs, rfl, hsz⟩ := okWide_struct Try.underlying27 hv
  obtain ⟨fuel, h⟩ := hk
  obtain ⟨q, ⟨hq, hok⟩, _⟩ := op_of fuel _ d p h
  have : cs = #[.int .u8 q.kind, .slice q.b.1 q.b.2.1 q.b.2.2.1, .int .i64 q.t, .int .i64 q.s.1, .int .i64 q.s.2] := by
    apply Array.toList_inj.1
    simpa [Value.cells] using hq
  subst this
  exact ⟨⟨q, hok⟩, rfl⟩
end
end Go.Proofs.Ytjkjbhapkmamkaa.bf
