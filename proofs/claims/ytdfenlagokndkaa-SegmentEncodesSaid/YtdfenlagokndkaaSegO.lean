/-
  Segments that came in, opened.
-/
import Derived.Test.YtdfenlagokndkaaSegK
import Derived.Test.YtdfenlagokndkaaOptO
namespace Go.Proofs.Ytdfenlagokndkaa.sg
open Go.RowKit aid mem oc op sm opn Go.ChangeShapes Go.WideShapes Go.ChangeAt
set_option linter.unusedVariables false

theorem cells_seg : Try.prog.cellsOf 28 = 11 := by kernel_rfl
theorem cells_bys : Try.prog.cellsOf 26 = 1 := by kernel_rfl
theorem old_of_row {w : World} {a : Option Addr} {len cap : Nat} {zs : List Int} (h : IsRow .u8 w a len cap zs) : Old w a cap := by
  rcases h with ⟨_, _, h, _⟩ | ⟨x, hx, _, _, hz, hc, _⟩
  · intro y _ h0; omega
  · intro y hy h0
    rw [hx] at hy
    injection hy with hy
    subst hy
    have := World.block_lt_of_cell? w _ (hc 0 (by omega))
    unfold Addr.add at this
    split at this <;> simpa using this

section
variable {H : Type} {enc : TypeId × Value → H} {w : World} {base : Nat}
set_option maxRecDepth 100000 in
theorem row_of (n : Nat) (c : Value) (d : DataW H) (p : List MemPlace)
    (h : DataW.trod enc Try.prog w base (fun _ => true) true n 26 [c] = some (d, p)) : ∃ a len cap zs, c = .slice a len cap ∧ IsRow .u8 w a len cap zs := by
  rcases open_ints Try.underlying26 Try.underlying5 (by kernel_rfl) h with ⟨hcs, _⟩ | ⟨x, l, c', zs, hcs, _, hl, hm, hz, hx, hcell, hwz⟩
  · injection hcs with hcs _
    exact ⟨none, 0, 0, [], hcs, .inl ⟨rfl, rfl, rfl, rfl⟩⟩
  · injection hcs with hcs _
    exact ⟨some x, l, c', zs, hcs, .inr ⟨_, rfl, hl, hm, by simpa using hz, hcell, hwz⟩⟩

set_option maxRecDepth 100000 in
theorem opt_of (fuel : Nat) (c0 c1 c2 c3 c4 c5 c6 c7 : Value) (d : DataW H) (p : List MemPlace)
    (h : DataW.trod enc Try.prog w base (fun _ => true) true fuel 25 [c0, c1, c2, c3, c4, c5, c6, c7] = some (d, p)) :
    ∃ (o : Opt) (a : Option Addr) (n cap : Nat), [c0, c1, c2, c3, c4, c5, c6, c7] = [.int .i64 o.mss, .bool o.permit, .bool o.ts, .int .u32 o.val, .int .u32 o.ecr, .bool o.hs, .int .i64 o.scale, .slice a n cap] ∧ o.Fit ∧ BlA w a n cap o.bl := by
  obtain ⟨xs, m, _, hx, hl, hxl, hf⟩ := DataW.trod_struct Try.underlying25 h
  have h0 := hf 0 _ rfl
  have h1 := hf 1 _ rfl
  have h2 := hf 2 _ rfl
  have h3 := hf 3 _ rfl
  have h4 := hf 4 _ rfl
  have h5 := hf 5 _ rfl
  have h6 := hf 6 _ rfl
  have h7 := hf 7 _ rfl
  match xs, hxl with
  | [x0, x1, x2, x3, x4, x5, x6, x7], _ =>
    simp [Value.cells, cells_int, cells_bool, cells_u32, cells_bls] at h0 h1 h2 h3 h4 h5 h6 h7
    obtain ⟨k0, e0, _, b0'⟩ := DataW.trod_int Try.underlying3 h0
    obtain ⟨k1, e1, _⟩ := DataW.trod_bool Try.underlying4 h1
    obtain ⟨k2, e2, _⟩ := DataW.trod_bool Try.underlying4 h2
    obtain ⟨k3, e3, _, b3⟩ := DataW.trod_int Try.underlying22 h3
    obtain ⟨k4, e4, _, b4⟩ := DataW.trod_int Try.underlying22 h4
    obtain ⟨k5, e5, _⟩ := DataW.trod_bool Try.underlying4 h5
    obtain ⟨k6, e6, _, b6⟩ := DataW.trod_int Try.underlying3 h6
    injection e0 with e0 _
    injection e1 with e1 _
    injection e2 with e2 _
    injection e3 with e3 _
    injection e4 with e4 _
    injection e5 with e5 _
    injection e6 with e6 _
    subst e0 e1 e2 e3 e4 e5 e6
    have key : ∃ (a : Option Addr) (len cap : Nat) (l : List (Int × Int)), c7 = .slice a len cap ∧ ElA BlIs 2 w a len cap l := by
      have hsl : ∃ a len cap, c7 = .slice a len cap := by
        rcases DataW.trod_slice Try.underlying23 h7 with ⟨hcs, _⟩ | ⟨a', len', cap', elems, rest, n, _, hcs, _⟩
        · injection hcs with hcs _; exact ⟨_, _, _, hcs⟩
        · injection hcs with hcs _; exact ⟨_, _, _, hcs⟩
      obtain ⟨a, len, cap, rfl⟩ := hsl
      obtain ⟨l, hl, _⟩ := open_els (R := BlIs) (D := fun (_ : DataW H) (_ : Int × Int) => True) (d := x7.1) (p := x7.2) Try.underlying23 (by rw [cells_bl]; omega) ⟨m, h7⟩ block_of
      rw [cells_bl] at hl
      exact ⟨a, len, cap, l, rfl, hl⟩
    obtain ⟨a, len, cap, l, rfl, hel⟩ := key
    obtain ⟨hbl, hbd⟩ := bl_of_els hel
    exact ⟨⟨k0, k1, k2, k3, k4, k5, k6, l⟩, a, len, cap, rfl, ⟨bounds_i64 b0', bounds_u32 b3, bounds_u32 b4, bounds_i64 b6, hbd⟩, hbl⟩

set_option maxRecDepth 100000 in
theorem open_seg {b0 : Nat} {v : Value} {d : DataW H} {p : List MemPlace} (hv : Value.okWide Try.prog w .any b0 28 v)
    (hk : DataW.Trod enc Try.prog w base (fun _ => true) true 28 v d p) :
    ∃ (s : Seg) (a : Option Addr) (n cap : Nat) (b : Option Addr) (m bc : Nat), v = segV s a n cap b m bc ∧ s.Fit ∧ BlA w a n cap s.o.bl ∧ SlA .u8 w b m bc s.body ∧ Old w b bc := by
  obtain ⟨cs, rfl, hsz⟩ := okWide_struct Try.underlying28 hv
  obtain ⟨fuel, h⟩ := hk
  obtain ⟨xs, m, _, hx, hl, hxl, hf⟩ := DataW.trod_struct Try.underlying28 h
  rw [cells_seg] at hsz
  have h0 := hf 0 _ rfl
  have h1 := hf 1 _ rfl
  have h2 := hf 2 _ rfl
  have h3 := hf 3 _ rfl
  obtain ⟨cl⟩ := cs
  match cl, hsz, xs, hxl with
  | [c0, c1, c2, c3, c4, c5, c6, c7, c8, c9, c10], _, [x0, x1, x2, x3], _ =>
    simp [Value.cells, cells_int, cells_u32, cells_opt, cells_bys] at h0 h1 h2 h3
    obtain ⟨k0, e0, _, b0'⟩ := DataW.trod_int Try.underlying3 h0
    obtain ⟨k1, e1, _, b1⟩ := DataW.trod_int Try.underlying22 h1
    injection e0 with e0 _
    injection e1 with e1 _
    subst e0 e1
    obtain ⟨o, a, n, cap, ho, hof, hob⟩ := opt_of m _ _ _ _ _ _ _ _ _ _ h2
    obtain ⟨b, k, bc, zs, rfl, hrow⟩ := row_of m _ _ _ h3
    injection ho with i2 ho
    injection ho with i3 ho
    injection ho with i4 ho
    injection ho with i5 ho
    injection ho with i6 ho
    injection ho with i7 ho
    injection ho with i8 ho
    injection ho with i9 ho
    subst i2 i3 i4 i5 i6 i7 i8 i9
    exact ⟨⟨k0, k1, o, zs.take k⟩, a, n, cap, b, k, bc, rfl, ⟨bounds_i64 b0', bounds_u32 b1, hof, bytes_of_row hrow⟩, hob, sl_of_row hrow, old_of_row hrow⟩
end
end Go.Proofs.Ytdfenlagokndkaa.sg
