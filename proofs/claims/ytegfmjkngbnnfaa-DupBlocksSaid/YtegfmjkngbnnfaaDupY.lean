/-
  Package dup's laws: spans that came in, with their bounds; the walk of DupBlocks.
-/
import Derived.Test.YtegfmjkngbnnfaaDupN
import Derived.Test.YtegfmjkngbnnfaaDupB
namespace Go.Proofs.Ytegfmjkngbnnfaa.dp
open Go.RowKit aid mem sq sp opn Go.ChangeShapes Go.WideShapes Go.ChangeAt
attribute [local go_sem ↓] Go.wp_at_zero Go.wp_at_succ
set_option linter.unusedVariables false

def SpIs2 (cs : List Value) (q : Int × Int) : Prop := SpIs cs q ∧ SpI q
theorem wf_i64 {n : Int} (h : (Lit.int .i64 n).wf = true) : I64 n := by
  have := bounds_i64 h
  exact this
section
variable {H : Type} {enc : TypeId × Value → H} {w : World} {base : Nat}
set_option maxRecDepth 100000 in
theorem span_of2 (n : Nat) (cs : List Value) (d : DataW H) (p : List MemPlace)
    (h : DataW.trod enc Try.prog w base (fun _ => true) true n 26 cs = some (d, p)) : ∃ q : Int × Int, SpIs2 cs q ∧ True := by
  obtain ⟨xs, m, _, hx, hl, hxl, hf⟩ := DataW.trod_struct Try.underlying26 h
  rw [cells_span] at hl
  have h0 := hf 0 _ rfl
  have h1 := hf 1 _ rfl
  match cs, hl, xs, hxl with
  | [c0, c1], _, [x0, x1], _ =>
    simp [cells_int] at h0 h1
    obtain ⟨k, hk, hk2, hkw⟩ := DataW.trod_int Try.underlying3 h0
    obtain ⟨q, hq, hq2, hqw⟩ := DataW.trod_int Try.underlying3 h1
    injection hk with hk _
    injection hq with hq _
    subst hk hq
    exact ⟨(k, q), ⟨rfl, wf_i64 hkw, wf_i64 hqw⟩, trivial⟩
set_option maxRecDepth 100000 in
theorem open_span2 {b0 : Nat} {v : Value} {d : DataW H} {p : List MemPlace} (hv : Value.okWide Try.prog w .any b0 26 v)
    (hk : DataW.Trod enc Try.prog w base (fun _ => true) true 26 v d p) : ∃ s : {q : Int × Int // SpI q}, v = spV s.1 := by
  obtain ⟨cs, rfl, hsz⟩ := okWide_struct Try.underlying26 hv
  obtain ⟨fuel, h⟩ := hk
  obtain ⟨q, ⟨hq, hok⟩, _⟩ := span_of2 fuel _ d p h
  refine ⟨⟨q, hok⟩, ?_⟩
  unfold SpIs at hq
  have : cs = #[.int .i64 q.1, .int .i64 q.2] := by
    apply Array.toList_inj.1
    simpa [Value.cells] using hq
  rw [this]
theorem sls_of_els2 {a : Option Addr} {len cap : Nat} {l : List (Int × Int)} (h : ElA SpIs2 2 w a len cap l) : SlS w a len cap l ∧ ∀ s ∈ l, SpI s := by
  refine ⟨⟨h.len, h.le, h.most, h.nil, fun h0 => ?_⟩, fun s hs => ?_⟩
  · obtain ⟨b, off, ha, hc⟩ := h.cells h0
    refine ⟨b, off, ha, fun i hi => ?_⟩
    have hil : i < l.length := by rw [h.len]; exact hi
    obtain ⟨cs, ⟨hR, _⟩, _, hj⟩ := hc i hil
    rw [hR] at hj
    have e : l.getD i (0, 0) = l[i] := by simp [List.getD, hil]
    rw [e]
    have j0 := hj 0 (by omega)
    have j1 := hj 1 (by omega)
    rw [← Nat.add_assoc] at j1
    exact ⟨by simpa using j0, by simpa using j1⟩
  · obtain ⟨i, hi, rfl⟩ := List.mem_iff_getElem.1 hs
    obtain ⟨_, _, _, hc⟩ := h.cells (by rw [← h.len]; omega)
    obtain ⟨cs, ⟨_, hok⟩, _⟩ := hc i hi
    exact hok
set_option maxRecDepth 100000 in
theorem open_spans2 {a : Option Addr} {len cap : Nat} {d : DataW H} {p : List MemPlace}
    (h : ∃ fuel, DataW.trod enc Try.prog w base (fun _ => true) true fuel 27 [.slice a len cap] = some (d, p)) :
    ∃ l : List (Int × Int), (SlS w a len cap l ∧ ∀ s ∈ l, SpI s) ∧ ((d = .nil ∧ l = []) ∨ ∃ elems rest, d = .slice elems rest ∧ elems.length = l.length) := by
  obtain ⟨l, hl, hd⟩ := open_els (R := SpIs2) (D := fun (_ : DataW H) (_ : Int × Int) => True) Try.underlying27 (by rw [cells_span]; omega) h span_of2
  rw [cells_span] at hl
  refine ⟨l, sls_of_els2 hl, ?_⟩
  rcases hd with h | ⟨el, rest, h1, h2, _⟩
  · exact .inl h
  · exact .inr ⟨el, rest, h1, h2⟩
end
theorem reach_spans {H : Type} {d : DataW H} {l : List (Int × Int)} (h : (d = .nil ∧ l = []) ∨ ∃ elems rest, d = .slice elems rest ∧ elems.length = l.length)
    (hr : ∀ el re, d = .slice el re → (el.length + re.length) * 16 ≤ reachBytes) : l.length * 16 ≤ 140737488351232 := by
  unfold reachBytes at hr
  rcases h with ⟨_, rfl⟩ | ⟨els, rest, rfl, hl⟩
  · simp
  · have := hr _ _ rfl
    omega

theorem eq_bk (x : Bk) (w : World) : (Op.equalIn 10000 42 (.agg #[.int .u32 x.1, .int .u32 x.2]) (.agg #[.int .u32 x.1, .int .u32 x.2])).run Try.prog w = .ok true w := by
  have u3 := Try.underlying22
  have a3 := Try.isAgg22
  have z3 := Try.sizeOf22
  have hS : Try.prog.underlying 42 = some (.struct (Try.prog.fieldsOf 42)) := by kernel_rfl
  rw [show (10000 : Nat) = 9999 + 1 from rfl, run_equalIn_agg w 9999 42 _ _ hS (by kernel_rfl)]
  simp only [Program.fieldsOf, Try.underlying42]
  go_simp
theorem eq_guardB : Try.prog.eqGuardType Try.prog.depth 42 = false := by kernel_rfl

set_option maxRecDepth 100000 in
set_option maxHeartbeats 3200000 in
theorem walk_DupBlocks (w : World) (first : Int) (hf : 0 ≤ first ∧ first ≤ 4294967295) (d : {q : Int × Int // SpI q}) (a : Option Addr) (n cap : Nat) (l : List (Int × Int)) (hl : SlS w a n cap l ∧ ∀ s ∈ l, SpI s) (hreach : l.length * 16 ≤ 140737488351232) :
    Calls Try.prog 4 #[.int .u32 first, spV d.1, .slice a n cap] w fun e w' => e = .returned (.bool true) ∧ Below w.heap.size w w' := by
  obtain ⟨d, hd⟩ := d
  simp only
  obtain ⟨hl, hok⟩ := hl
  have hlen := hl.len
  have b1 := bal (w := w) (.cells #[.int .i64 d.1, .int .i64 d.2] 26)
  have s1 := sp_new w d
  have HA := Lib.hid (fun W (hW : Below w.heap.size w W) => blocks_any first d a n cap l W hf hd (hl.later hW) hok)
  have HB := Lib.hid (fun W (hW : Below w.heap.size w W) => rblocks_any first d a n cap l W hf hd (hl.later hW) hok (by omega))
  have HLO := Lib.hid (fold_ok first [] (d :: l) (by simp))
  have HLE := Lib.hid (fold_le first [] (d :: l) (by simp))
  have HE : Hid (blocksP first d l = (d :: l).foldl (putB first) []) := Lib.hid rfl
  rw [← HE.out] at HLO HLE
  generalize blocksP first d l = L at *
  have HS1 := Lib.hid s1
  clear hl hok hlen hreach HE s1
  go_enter Try.func4, Try.ntmps4
  go_wp2_with fail
  refine (known_any _).mono ?_
  rintro e w1 ⟨rfl, h1⟩
  have s2 := HS1.out.later h1
  have hb1 := b1.trans (h1.mono b1.size)
  have c0 := s2.c0; have c1 := s2.c1
  clear b1 h1 HS1
  go_wp2_with fail
  refine (HA.out _ hb1).mono ?_
  rintro e w2 ⟨v, rfl, hown, h2⟩
  obtain ⟨xa, xc, rfl, hsx⟩ := slb_of_own hown HLO.out
  have hb2 := hb1.trans (h2.mono hb1.size)
  have s3 := s2.later h2
  clear c0 c1 hown h2 hb1 s2
  have c0 := s3.c0; have c1 := s3.c1
  go_wp2_with fail
  refine (HB.out _ hb2).mono ?_
  rintro e w3 ⟨v, rfl, hown, h3⟩
  obtain ⟨ya, yc, rfl, hsy⟩ := slb_of_own hown HLO.out
  have hx3 := hsx.later h3
  have hb3 := hb2.trans (h3.mono hb2.size)
  have hle := HLE.out
  have hmx := hx3.most
  have hlx := hx3.le
  have hmy := hsy.most
  have hly := hsy.le
  unfold maxLen at hmx hmy
  have HX := Lib.hid hx3.cells
  have HY := Lib.hid hsy.cells
  have HB3 := Lib.hid hb3
  clear c0 c1 hown h3 hb2 s3 hsx hx3 hsy hb3 HA HB HLO HLE
  generalize L.length = m at *
  go_wp2_with fail
  go_loopw [9] (fun i wr => ∃ k nq : Nat, k ≤ m ∧ i = .int .i64 k ∧ wr = w3.drewN nq) (fun i _ => m - (intOf i).toNat)
  case atStart => exact ⟨0, 0, Nat.zero_le _, rfl, rfl⟩
  case round =>
    obtain ⟨k, nq, hk, rfl, rfl⟩ := hrel
    have hk0 : (0 : Int) ≤ (k : Int) := by omega
    by_cases hlt : k < m
    · obtain ⟨b1, o1, rfl, hc1⟩ := HX.out (by omega)
      obtain ⟨b2, o2, rfl, hc2⟩ := HY.out (by omega)
      obtain ⟨g1, g2⟩ := hc1 k hlt
      obtain ⟨g3, g4⟩ := hc2 k hlt
      have hk1 : (k : Int) < (m : Int) := by omega
      generalize L.getD k (0, 0) = x at *
      have eqg := eq_guardB
      have eqb := eq_bk x
      clear hc1 hc2
      go_wp2_with fail
      go_quiet (fail)
      clear eqb eqg
      go_wp2
      go_roundw
      case rel => exact ⟨k + 1, _, by omega, by go_num, rfl⟩
      case measure => simp [intOf]; omega
    · go_wp2_with fail
      refine (known_any _).mono ?_
      rintro e w4 ⟨rfl, h4⟩
      go_wp2_with fail
      go_ret
      exact ⟨rfl, (HB3.out.trans ((show Below w3.heap.size w3 (w3.drewN nq) from ⟨rfl, rfl, rfl, Nat.le_refl _, fun _ _ => rfl⟩).mono HB3.out.size)).trans (h4.mono HB3.out.size)⟩
end Go.Proofs.Ytegfmjkngbnnfaa.dp
