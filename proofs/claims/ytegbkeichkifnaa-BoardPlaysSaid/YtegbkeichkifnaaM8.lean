/-
  Several texts in one: BrdD BrdB BrdQ BrdH BrdI BrdJ BrdC BrdK BrdT BrdY
-/
import Derived.Test.YtegbkeichkifnaaM7
/-!   Package board: its spans' tree: taking out what is below.
-/
namespace Go.Proofs.Ytegbkeichkifnaa.bd
open Go.RowKit Go.Shelf aid mem rng sp rn bv
attribute [local go_sem ↓] Go.wp_at_zero Go.wp_at_succ
set_option linter.unusedVariables false
set_option linter.unusedSimpArgs false

theorem tl_first {w : World} {b : Nat} {l : List Sp} (h : TL w b l) (hn : l.length ≤ 1000000) : Calls Try.prog 43 #[.pointer (some ⟨b, 0, none⟩), .int .i64 0] w fun e w' => e = .returned (tupO (l.head?.map ky)) ∧ Below w.heap.size w w' := by
  obtain ⟨t, h1, h2, h3⟩ := h
  refine (tat_any h1.o 0 (by omega) (by rw [size_ky h2]; exact hn)).mono ?_
  rintro e w' ⟨rfl, hb⟩
  rw [h2, atL_zero, List.head?_map]
  exact ⟨rfl, hb⟩
theorem tl_last {w : World} {b : Nat} {l : List Sp} (h : TL w b l) (hn : l.length ≤ 1000000) : Calls Try.prog 43 #[.pointer (some ⟨b, 0, none⟩), .int .i64 ((l.length : Int) - 1)] w fun e w' => e = .returned (tupO (l.getLast?.map ky)) ∧ Below w.heap.size w w' := by
  obtain ⟨t, h1, h2, h3⟩ := h
  refine (tat_any h1.o _ (by omega) (by rw [size_ky h2]; exact hn)).mono ?_
  rintro e w' ⟨rfl, hb⟩
  have e : atL t.toL ((l.length : Int) - 1) = l.getLast?.map ky := by
    rw [h2]
    unfold atL
    by_cases c : l = []
    · subst c; rfl
    · have : 0 < l.length := List.length_pos_iff.2 c
      rw [if_pos (by omega), show ((l.length : Int) - 1).toNat = l.length - 1 by omega, List.getElem?_map, List.getLast?_eq_getElem?]
  rw [e]
  exact ⟨rfl, hb⟩
/-- how many begin below -/
def cntB (l : List Sp) (o : Int) : Nat := (l.filter (fun x => decide (x.1 < o))).length
theorem cnt_lo {x : Sp} {l : List Sp} {o : Int} (h : x.1 < o) : cntB (x :: l) o = cntB l o + 1 := by unfold cntB; rw [List.filter_cons_of_pos (by simpa using h)]; rfl
theorem cnt_hi {x : Sp} {l : List Sp} {o : Int} (h : ¬ x.1 < o) : cntB (x :: l) o = cntB l o := by unfold cntB; rw [List.filter_cons_of_neg (by simpa using h)]
set_option maxRecDepth 100000 in
set_option maxHeartbeats 4000000 in
theorem drop_any {w : World} {b : Nat} {l : List Sp} (o : Int) (h : TL w b l) (hn : l.length ≤ 4096) :
    Calls Try.prog 40 #[.agg #[.pointer (some ⟨b, 0, none⟩)], .int .i64 o] w fun e w' => (∃ v, e = .returned v) ∧ TL w' b (dropL l o) ∧ Kept [b] w w' := by
  have b1 := bal (w := w) (.cells #[.pointer (some ⟨b, 0, none⟩)] 56)
  have x1 := heap_alloc_new w (.cells #[.pointer (some ⟨b, 0, none⟩)] 56)
  have hbw := h.lt
  have HT := Lib.hid (h.later b1)
  have HK := Lib.hid (Kept.of_below b1 (Nat.le_refl _) [b])
  have HX := Lib.hid x1
  have hbn : b ≠ w.heap.size := by omega
  clear b1 x1 h
  generalize hL : dropL l o = L at *
  go_enter Try.func40, Try.ntmps40
  go_wp2_with fail
  go_loopg [4] (cntB l o) (fun n s4 wr => ∃ m : List Sp, cntB m o = n ∧ m.length ≤ 4096 ∧ TL wr b m ∧ dropL m o = L ∧ Kept [b] w wr ∧ wr.heap[w.heap.size]? = some (.cells #[.pointer (some ⟨b, 0, none⟩)] 56 (0, 0)))
  case atStart => exact ⟨l, rfl, hn, HT.out, hL, HK.out, HX.out⟩
  case round =>
    obtain ⟨m, hcn, hml, hT, hd, hk, hx⟩ := hrel
    have HF := Lib.hid (tl_first hT (by omega))
    have c0 := cofr hx 0 _ rfl
    have HTm := Lib.hid hT
    have HKm := Lib.hid hk
    have HXm := Lib.hid hx
    clear hT hk hx HT HK HX
    cases m with
    | nil =>
      have HDD := Lib.hid hd
      rw [List.head?_nil, Option.map_none] at HF
      simp only [tupO] at HF
      clear hd
      go_wp2_with (go_at_call 43; (with_reducible refine HF.out.mono ?_); rintro e w2 ⟨rfl, h2⟩; have HB2 := Lib.hid (h2.trans ((bal (w := w2) (.cells #[.int .i64 0, .int .i64 0] 24)).mono h2.size)); clear h2 c0)
      exact bodyPost_ret (v := .tuple #[]) (results_none rfl _ _ _) rfl ⟨⟨_, rfl⟩, by rw [← HDD.out]; exact HTm.out.later HB2.out, HKm.out.trans (Kept.of_below HB2.out (Nat.le_refl _) [b]) (by simp)⟩
    | cons x r =>
      rw [List.head?_cons, Option.map_some] at HF
      simp only [tupO] at HF
      have hrn := HTm.out.rn
      by_cases hlo : x.1 < o
      · have hcl := cnt_lo (l := r) hlo
        have HFR := Lib.hid (fun X => sp.from_any x o X)
        have HOV := Lib.hid (drop_over hrn hlo)
        have HGO := Lib.hid (drop_gone (x := x) (l := r) (o := o))
        have HD0 := Lib.hid hd
        have hcr : r.length + 1 ≤ 4096 := by simpa using hml
        generalize hm : fromP x o = m at *
        have HLN := Lib.hid (fun X => len_any m X)
        clear hrn hd
        go_wp2_with (first
          | (go_at_call 43; (with_reducible refine HF.out.mono ?_); rintro e w2 ⟨rfl, h2⟩; have b3 := bal (w := w2) (.cells #[.int .i64 x.1, .int .i64 x.2] 24); have h3 := h2.trans (b3.mono h2.size); have s3 := sp_new w2 x; have d0 := kcell h3 c0; have HD := Lib.hid (tl_del (P := []) (x := x) (Q := r) (HTm.out.later h3) (by simp; omega)); have HX3 := Lib.hid ((h3.block _ (lt_of_block HXm.out)).trans HXm.out); have HS3 := Lib.hid s3; have hge3 := h2.size; have HK3 := Lib.hid (HKm.out.trans (Kept.of_below h3 (Nat.le_refl _) [b]) (by simp)); clear h2 b3 h3 s3 c0)
          | (go_at_call 58; (with_reducible refine HD.out.mono ?_); rintro e w4 ⟨⟨q, rfl⟩, hT4, hk4⟩; have hx4 := hk4.heap (by simpa using fun e => hbn e.symm) HX3.out; have s4 : SpAt w4 w2.heap.size x := hk4.heap (by have := HTm.out.lt; simp; omega) HS3.out; have HK4 := Lib.hid (HK3.out.trans hk4 (by simp)); have HT4 := Lib.hid hT4; have HX4 := Lib.hid hx4; have e0 := s4.c0; have e1 := s4.c1; clear hT4 hk4 hx4 s4 d0)
          | (go_at_call 38; (with_reducible refine (HFR.out _).mono ?_); rintro e w5 ⟨rfl, h5⟩; have b6 := bal (w := w5) (.cells #[.int .i64 m.1, .int .i64 m.2] 24); have h6 := h5.trans (b6.mono h5.size); have s6 := sp_new w5 m; have f0 := s6.c0; have f1 := s6.c1; have HS6 := Lib.hid s6; have HX6 := Lib.hid ((h6.block _ (lt_of_block HX4.out)).trans HX4.out); have HT6 := Lib.hid (HT4.out.later h6); have HK6 := Lib.hid (HK4.out.trans (Kept.of_below h6 (Nat.le_refl _) [b]) (by simp)); clear h5 b6 h6 s6 e0 e1)
          | (go_at_call 35; (with_reducible refine (HLN.out _).mono ?_); rintro e w7 ⟨rfl, h7⟩; have s7 := HS6.out.later h7; have hx7 := (h7.block _ (lt_of_block HX6.out)).trans HX6.out; have g0 := s7.c0; have g1 := s7.c1; have g2 := cofr hx7 0 _ rfl; have HX7 := Lib.hid hx7; have HT7 := Lib.hid (HT6.out.later h7); have HK7 := Lib.hid (HK6.out.trans (Kept.of_below h7 (Nat.le_refl _) [b]) (by simp)); clear s7 hx7 h7 f0 f1; by_cases hz : 0 < lenI m)
          | (go_at_call 59; go_must (with_reducible refine (tl_put (P := []) (Q := r) (x := m) HT7.out (by simpa using (HOV.out (by omega)).1) (by simp; omega)).mono ?_); rintro e w8 ⟨⟨q, rfl⟩, hT8, hk8⟩; have hx8 := hk8.heap (by simpa using fun e => hbn e.symm) HX7.out; have HF8 := Lib.hid (And.intro hT8 (And.intro (HK7.out.trans hk8 (by simp)) hx8)); clear hT8 hk8 hx8 g0 g1 g2))
        · obtain ⟨hT8, hk8, hx8⟩ := HF8.out
          obtain ⟨o1, o2, o3⟩ := HOV.out (by omega)
          have hc9 : cntB (m :: r) o = cntB r o := cnt_hi (by rw [o3]; simp)
          go_roundg (cntB r o)
          case measure => omega
          case rel => exact ⟨m :: r, hc9, by simp; omega, hT8, o2.trans HD0.out, hk8, hx8⟩
        · have hz0 : lenI m = 0 := by have := (lenI_bd m).1; omega
          have h9 := HGO.out hz0
          go_roundg (cntB r o)
          case measure => omega
          case rel => exact ⟨r, rfl, by omega, by simpa using HT7.out, h9.symm.trans HD0.out, HK7.out, HX7.out⟩
      · have HDD := Lib.hid (show dropL (x :: r) o = x :: r from drop_head hrn (by omega))
        have hlo2 : o ≤ x.1 := by omega
        have HD0 := Lib.hid hd
        clear hd hrn
        go_wp2_with (go_at_call 43; (with_reducible refine HF.out.mono ?_); rintro e w2 ⟨rfl, h2⟩; have HB2 := Lib.hid (h2.trans ((bal (w := w2) (.cells #[.int .i64 x.1, .int .i64 x.2] 24)).mono h2.size)); clear h2 c0)
        exact bodyPost_ret (v := .tuple #[]) (results_none rfl _ _ _) rfl ⟨⟨_, rfl⟩, by rw [← HD0.out, HDD.out]; exact HTm.out.later HB2.out, HKm.out.trans (Kept.of_below HB2.out (Nat.le_refl _) [b]) (by simp)⟩
end Go.Proofs.Ytegbkeichkifnaa.bd
/-!   Package board: a board in memory, and what is asked of it.
-/
namespace Go.Proofs.Ytegbkeichkifnaa.bd
open Go.RowKit Go.Shelf aid mem rng sp rn bv
attribute [local go_sem] Oper.semAt_some
set_option linter.unusedVariables false
set_option linter.unusedSimpArgs false

abbrev bdC (s : Bs) (tb : Nat) : Obj := .cells #[.int .i64 s.una, .int .i64 s.nxt, .pointer (some ⟨tb, 0, none⟩)] 59
structure BdAt (w : World) (x tb : Nat) (s : Bs) : Prop where
  cel : w.heap[x]? = some (bdC s tb)
  tl : TL w tb s.l
  ok : BOk s
theorem BdAt.later {w w' : World} {x tb : Nat} {s : Bs} (h : BdAt w x tb s) (hb : Below w.heap.size w w') : BdAt w' x tb s := ⟨(hb.block _ (lt_of_block h.cel)).trans h.cel, h.tl.later hb, h.ok⟩
theorem BdAt.lt {w : World} {x tb : Nat} {s : Bs} (h : BdAt w x tb s) : x < w.heap.size ∧ tb < w.heap.size := ⟨lt_of_block h.cel, h.tl.lt⟩
theorem BdAt.cells {w : World} {x tb : Nat} {s : Bs} (h : BdAt w x tb s) : w.cell? ⟨x, 0, none⟩ = some (.int .i64 s.una) ∧ w.cell? ⟨x, 1, none⟩ = some (.int .i64 s.nxt) ∧ w.cell? ⟨x, 2, none⟩ = some (.pointer (some ⟨tb, 0, none⟩)) :=
  ⟨cofr h.cel 0 _ rfl, cofr h.cel 1 _ rfl, cofr h.cel 2 _ rfl⟩
theorem BdAt.ne {w : World} {x tb : Nat} {s : Bs} (h : BdAt w x tb s) : x ≠ tb := by
  rintro rfl
  obtain ⟨t, ⟨q, h1, _⟩, _⟩ := h.tl
  have := h.cel
  rw [h1] at this
  injection this with this
  injection this with _ this _
  exact absurd this (by decide)
/-- where a pointer leads: to a board; or it is none -/
def BdO (w : World) (p : Option Addr) (s : Bs) : Prop := (p = none ∧ s = Bs.zero) ∨ ∃ x tb, p = some ⟨x, 0, none⟩ ∧ BdAt w x tb s
theorem BdAt.o {w : World} {x tb : Nat} {s : Bs} (h : BdAt w x tb s) : BdO w (some ⟨x, 0, none⟩) s := .inr ⟨x, tb, rfl, h⟩
theorem bdo_none (w : World) : BdO w none Bs.zero := .inl ⟨rfl, rfl⟩
theorem BdO.later {w w' : World} {p : Option Addr} {s : Bs} (h : BdO w p s) (hb : Below w.heap.size w w') : BdO w' p s := by
  rcases h with h | ⟨x, tb, rfl, h⟩
  · exact .inl h
  · exact .inr ⟨x, tb, rfl, h.later hb⟩
theorem BdO.ok {w : World} {p : Option Addr} {s : Bs} (h : BdO w p s) : BOk s := by
  rcases h with ⟨_, rfl⟩ | ⟨x, tb, rfl, h⟩
  · exact bok_zero
  · exact h.ok
set_option maxHeartbeats 2000000 in
theorem una_any {w : World} {p : Option Addr} {s : Bs} (h : BdO w p s) : Calls Try.prog 18 #[.pointer p] w fun e w' => e = .returned (.int .i64 s.una) ∧ w = w' := by
  rcases h with ⟨rfl, rfl⟩ | ⟨x, tb, rfl, h⟩
  · go_enter Try.func18, Try.ntmps18
    go_wp2
    go_ret
    exact ⟨rfl, rfl⟩
  · obtain ⟨c0, c1, c2⟩ := h.cells
    clear h
    go_enter Try.func18, Try.ntmps18
    go_wp2
    go_ret
    exact ⟨rfl, rfl⟩
set_option maxHeartbeats 2000000 in
theorem nxt_any {w : World} {p : Option Addr} {s : Bs} (h : BdO w p s) : Calls Try.prog 20 #[.pointer p] w fun e w' => e = .returned (.int .i64 s.nxt) ∧ w = w' := by
  rcases h with ⟨rfl, rfl⟩ | ⟨x, tb, rfl, h⟩
  · go_enter Try.func20, Try.ntmps20
    go_wp2
    go_ret
    exact ⟨rfl, rfl⟩
  · obtain ⟨c0, c1, c2⟩ := h.cells
    clear h
    go_enter Try.func20, Try.ntmps20
    go_wp2
    go_ret
    exact ⟨rfl, rfl⟩
set_option maxHeartbeats 2000000 in
theorem flight_any {w : World} {p : Option Addr} {s : Bs} (h : BdO w p s) : Calls Try.prog 42 #[.pointer p] w (RetS (s.una, s.nxt) w) := by
  have b1 := bal (w := w) (.cells #[.int .i64 s.una, .int .i64 s.nxt] 24)
  have s1 := sp_new w (s.una, s.nxt)
  have b0 := bal (w := w) (.cells #[.int .i64 0, .int .i64 0] 24)
  have s0 := sp_new w (0, 0)
  have HU := Lib.hid (una_any (h.later b0))
  have HN := Lib.hid (nxt_any (h.later b0))
  have c0 := s0.f0; have c1 := s0.f1
  have c2 := s0.c0; have c3 := s0.c1
  have d0 := s1.c0; have d1 := s1.c1
  have HB := Lib.hid b1
  clear b0 b1 s0 s1 h
  go_enter Try.func42, Try.ntmps42
  go_wp2_with (first
    | (go_at_call 18; (with_reducible refine HU.out.mono ?_); rintro e w2 ⟨rfl, rfl⟩)
    | (go_at_call 20; (with_reducible refine HN.out.mono ?_); rintro e w2 ⟨rfl, rfl⟩))
  exact bodyPost_ret (v := .agg #[.int .i64 s.una, .int .i64 s.nxt]) (by simp [results, Try.results42, go_sem, d0, d1]) rfl ⟨rfl, HB.out⟩
set_option maxRecDepth 100000 in
set_option maxHeartbeats 4000000 in
theorem bparts_any {w0 w : World} {p : Option Addr} {s : Bs} (hb0 : Below w0.heap.size w0 w) (h : BdO w0 p s) (y : Sp) (A : Nat → Prop) (hA : FarR w0 w A) :
    Calls Try.prog 34 #[.pointer p, spV y] w (SeqS 74 (partsL s.l y) A w) := by
  have b1 := bal (w := w) (.cells #[.int .i64 y.1, .int .i64 y.2] 24)
  have s1 := sp_new w y
  have e0 := s1.c0; have e1 := s1.c1
  have HB1 := Lib.hid b1
  rcases h with ⟨rfl, rfl⟩ | ⟨x, tb, rfl, h⟩
  · have HP := Lib.hid (sparts_any (hb0.trans (b1.mono hb0.size)) (trO_none w0) rfl Rn.nil y A (hA.later b1))
    clear b1 s1 hA hb0
    go_enter Try.func34, Try.ntmps34
    go_wp2_with (go_at_call 55; go_must (with_reducible refine HP.out.mono ?_); rintro e w3 ⟨lb, rfl, hs, hb⟩; have HS := Lib.hid hs; clear hs)
    go_ret
    exact ⟨lb, rfl, HS.out, HB1.out.trans (hb.mono HB1.out.size)⟩
  · obtain ⟨t, h1, h2, h3⟩ := h.tl
    have hb01 := hb0.trans (b1.mono hb0.size)
    have HP := Lib.hid (fun X (hX : Below (w.alloc (.cells #[.int .i64 y.1, .int .i64 y.2] 24)).heap.size (w.alloc (.cells #[.int .i64 y.1, .int .i64 y.2] 24)) X) => sparts_any (hb01.trans (hX.mono hb01.size)) h1.o h2 h3 y A ((hA.later b1).later hX))
    obtain ⟨c0, c1, c2⟩ := (h.later hb01).cells
    have HBD := Lib.hid (Below.refl (w.alloc (.cells #[.int .i64 y.1, .int .i64 y.2] 24)).heap.size (w.alloc (.cells #[.int .i64 y.1, .int .i64 y.2] 24))).drew
    clear b1 s1 hA hb0 h1 h2 h3 hb01 h c0 c1
    go_enter Try.func34, Try.ntmps34
    go_wp2_with fail
    have k0 : (w.alloc (.cells #[.int .i64 y.1, .int .i64 y.2] 24)).drew.cell? ⟨x, 2, none⟩ = some (.pointer (some ⟨tb, 0, none⟩)) ∧ (w.alloc (.cells #[.int .i64 y.1, .int .i64 y.2] 24)).drew.cell? ⟨w.heap.size, 0, none⟩ = some (.int .i64 y.1) ∧ (w.alloc (.cells #[.int .i64 y.1, .int .i64 y.2] 24)).drew.cell? ⟨w.heap.size, 1, none⟩ = some (.int .i64 y.2) := ⟨c2, e0, e1⟩
    go_region_held3 (fun w' => w'.cell? ⟨x, 2, none⟩ = some (.pointer (some ⟨tb, 0, none⟩)) ∧ w'.cell? ⟨w.heap.size, 0, none⟩ = some (.int .i64 y.1) ∧ w'.cell? ⟨w.heap.size, 1, none⟩ = some (.int .i64 y.2)) (with_reducible first | exact k0 | exact k1 | go_keep) (
      (go_at_call 55; (with_reducible refine (HP.out _ HBD.out).mono ?_); rintro e w3 ⟨lb, rfl, hs, hb⟩; have HS := Lib.hid hs; have HB3 := Lib.hid (HB1.out.trans ((undrew hb).mono HB1.out.size)); have k1 := And.intro (kcell (undrew hb) c2) (And.intro (kcell (undrew hb) e0) (kcell (undrew hb) e1)); clear hs hb))
    all_goals
      go_wp2
      go_ret
      exact ⟨lb, rfl, HS.out, HB3.out⟩
end Go.Proofs.Ytegbkeichkifnaa.bd
/-!   Package board: Within, Bytes, what is missing, Has, High.
-/
namespace Go.Proofs.Ytegbkeichkifnaa.bd
open Go.RowKit Go.Shelf aid mem rng sp rn bv
attribute [local go_sem] Oper.semAt_some
set_option linter.unusedVariables false
set_option linter.unusedSimpArgs false

set_option maxRecDepth 100000 in
set_option maxHeartbeats 4000000 in
theorem bwithin_any {w : World} {p : Option Addr} {bs : Bs} (h : BdO w p bs) (s : Sp) :
    Calls Try.prog 11 #[.pointer p, spV s] w (RetI (withinL bs.l s) w) := by
  have hl := h.ok.rn
  obtain ⟨p1, p2, p3, _⟩ := parts_spec s hl
  have hbd := p1.bytes
  rw [← p3]
  clear p2 p3
  have HPA := Lib.hid (fun (X : World) (hX : Below w.heap.size w X) (A : Nat → Prop) (hA : ∀ k, A k → w.heap.size ≤ k ∧ k < X.heap.size) => bparts_any (w0 := w) hX h s A (FarR.of hX hA))
  have HPR := Lib.hid (fun (pre : List Sp) (y : Sp) (hp : pre ++ [y] <+: partsL bs.l s) => show 0 ≤ bytesL pre ∧ bytesL (pre ++ [y]) = bytesL pre + lenI y ∧ bytesL (pre ++ [y]) ≤ 4611686018427387904 from by
    have h1 : Rn (pre ++ [y]) := by
      obtain ⟨t, ht⟩ := hp
      rw [← ht] at p1
      exact p1.left
    refine ⟨h1.left.bytes.1, ?_, h1.bytes.2⟩
    rw [bytes_append, bytes_cons, bytes_nil]
    omega)
  generalize partsL bs.l s = L at *
  have hMO : Try.prog.follows .mixedOrders = true := by kernel_rfl
  refine (callsIn_wide (n := 6)).1 ?_
  refine callsIn_of_wp_marks Try.func11 rfl trivial ?_ rfl
  simp only [Try.ntmps11, List.size_toArray, List.length_cons, List.length_nil, Nat.reduceAdd, Nat.reduceSub, Array.replicate_succ, Array.replicate_zero, List.push_toArray, List.append_toArray, List.nil_append, List.cons_append]
  have b1 := bal (w := w) (.cells #[.int .i64 s.1, .int .i64 s.2] 24)
  have s1 := sp_new w s
  have b2 := bal (w := w.alloc (.cells #[.int .i64 s.1, .int .i64 s.2] 24)) (.cells #[.int .i64 0] 3)
  have n2 := heap_alloc_new (w.alloc (.cells #[.int .i64 s.1, .int .i64 s.2] 24)) (.cells #[.int .i64 0] 3)
  have hz1 : (w.alloc (.cells #[.int .i64 s.1, .int .i64 s.2] 24)).heap.size = w.heap.size + 1 := by simp
  rw [hz1] at n2
  have s2 := s1.later b2
  have b12 := b1.trans (b2.mono b1.size)
  have c0 := s2.c0; have c1 := s2.c1
  have hz2 : ((w.alloc (.cells #[.int .i64 s.1, .int .i64 s.2] 24)).alloc (.cells #[.int .i64 0] 3)).heap.size = w.heap.size + 1 + 1 := by simp
  have HP := Lib.hid (HPA.out _ b12 (fun k => k = w.heap.size + 1) (fun k hk => by omega))
  have HS2 := Lib.hid (And.intro b12 (And.intro n2 hz2))
  clear b1 s1 b2 n2 hz1 s2 b12 hz2 h HPA
  gi_wp2
  refine ⟨trivial, ?_⟩
  refine (callsIn_wide.2 HP.out).mono ?_
  rintro e w9 ⟨lb, rfl, hseq, h9⟩
  obtain ⟨b12, n2, hz2⟩ := HS2.out
  have hz9 := h9.size
  have hb9 := b12.trans (h9.mono b12.size)
  have hn9 := (h9.block _ (by omega)).trans n2
  rw [hz2] at hz9
  have HSEQ := Lib.hid hseq
  clear hseq h9 b12 n2 hz2 HS2 HP c0 c1
  obtain ⟨bn, hbn⟩ : ∃ bn, bn = w.heap.size + 1 := ⟨_, rfl⟩
  rw [← hbn] at hn9 HSEQ hz9 ⊢
  have hbw : w.heap.size ≤ bn := by omega
  have HBN := Lib.hid hbn
  clear hbn
  have HWI : Hid (WI w bn [] (fun k => k = bn) w9) := Lib.hid ⟨hn9, rfl, hb9⟩
  clear hn9 hb9
  gi_wp2
  refine wpIn_rangeBox (fun (b : Nat) (y : Sp) (t : Array Value) => (t.setIfInBounds 10 (spV y)).setIfInBounds 6 (.pointer (some ⟨b, 0, none⟩))) (gf := 74) (lb := lb) (L := L) (A := fun k => k = bn) (w0 := w9) (encs := spE) rfl eg_parts HSEQ.out (Below.refl _ _) (fun _ => rfl)
    (WI w bn) NoX (fun k => k = bn) ?hc0 (wi_bears (by omega) hbw) (nox_bears _) HWI.out (BxS w9.heap.size) (bxs_bears w9.heap.size) ?assign ?body ?done ?stop
  case hc0 =>
    rintro k rfl
    exact ⟨.inl rfl, by omega⟩
  case assign =>
    intro l' pre y C X K hI hp hc hz hK
    have b1 := bal (w := X) (.cells #[.int .i64 y.1, .int .i64 y.2] 24)
    have HK := Lib.hid (hK X.heap.size (fun k => C k ∨ k = X.heap.size) _ ⟨Steps.of_below b1 _, fun k hk => by rcases hk with hk | rfl; exact .inl hk; exact .inr ⟨Nat.le_refl _, by simp⟩⟩
      ⟨(b1.block _ (lt_of_block hI.hn)).trans hI.hn, .inl hI.cb, hI.below.trans (b1.mono hI.below.size)⟩ ⟨sp_new X y, hz, .inr rfl⟩)
    clear hK hI hp hc b1
    gi_wp2
    exact HK.out
  case body =>
    rintro l' pre y b C X hI ⟨hyb, hb, hcb⟩ hp hcc hz
    obtain ⟨q0, q1, q2⟩ := HPR.out pre y hp
    have hly := lenI_bd y
    have HLN := Lib.hid (fun X => len_any y X)
    have hyd : SpAt X.drew b y := hyb
    have hnd : X.drew.heap[bn]? = some (.cells #[.int .i64 (bytesL pre)] 3 (0, 0)) := hI.hn
    have cn := cofr hnd 0 _ rfl
    have hne : bn ≠ b := by omega
    have HEND := Lib.hid (fun (w2 : World) (h2 : Below X.drew.heap.size X.drew w2) (h3 : (w2.setCell ⟨bn, 0, none⟩ (.int .i64 (bytesL pre + lenI y))).heap[bn]? = some (.cells #[.int .i64 (bytesL pre + lenI y)] 3 (0, 0))) (a' : Act) =>
      show rPost (WI w bn) NoX (pre ++ [y]) C X .normal a' (w2.setCell ⟨bn, 0, none⟩ (.int .i64 (bytesL pre + lenI y))) from
        ⟨C, ⟨(Steps.of_below (undrew h2) _).trans (rng.Steps.setCell _ w2 ⟨bn, 0, none⟩ _ (fun hh => hh hI.cb)), fun _ hk => .inl hk⟩,
          ⟨by rw [q1]; exact h3, hI.cb, (hI.below.trans ((undrew h2).mono hI.below.size)).setCell (p := ⟨bn, 0, none⟩) (by simp only; omega) _⟩⟩)
    have HST := Lib.hid (fun (w2 : World) (h2 : Below X.drew.heap.size X.drew w2) (v : Value) => show (w2.setCell ⟨bn, 0, none⟩ v).cell? ⟨b, 0, none⟩ = some (.int .i64 y.1) ∧ (w2.setCell ⟨bn, 0, none⟩ v).cell? ⟨b, 1, none⟩ = some (.int .i64 y.2) from
      ⟨(set_other (by simp [hne])).trans (hyd.later h2).c0, (set_other (by simp [hne])).trans (hyd.later h2).c1⟩)
    have hw1 : IntKind.i64.wrap (bytesL pre + lenI y) = bytesL pre + lenI y := IntWalk.i64_in _ (by omega)
    have fz0 : X.drew.frozen? ⟨bn, 0, none⟩ = false := fofr hnd 0
    have hHeld : (fun w' => w'.cell? ⟨b, 0, none⟩ = some (.int .i64 y.1) ∧ w'.cell? ⟨b, 1, none⟩ = some (.int .i64 y.2)) X.drew := ⟨hyd.c0, hyd.c1⟩
    generalize hRP : rPost (WI w bn) NoX (pre ++ [y]) C X = RP at *
    clear hRP hI hyb hcb hp hcc HPR HSEQ HWI q1
    simp only [List.setIfInBounds_toArray, List.set_cons_zero, List.set_cons_succ]
    gi_wp2
    refine wpIn_region_inR (S := (fun w' => w'.cell? ⟨b, 0, none⟩ = some (.int .i64 y.1) ∧ w'.cell? ⟨b, 1, none⟩ = some (.int .i64 y.2))) hMO (by kernel_rfl) ?_
    refine wpAnyH_take (i := 1) (oi := _) (v := ?_) rfl (by kernel_rfl) (by kernel_rfl) (by kernel_rfl) (fun _ _ _ h => h) (Or.inl ⟨by rfl, ?_⟩) (by assumption) ?_
    rotate_left
    · (first | (intro v hSw; (try dsimp only at hSw); go_simp; done) | (intro v hSw; (try dsimp only at hSw); go_simp; with_reducible rfl))
    (try simp only [List.getElem_toArray, List.getElem_cons_succ, List.getElem_cons_zero, Act.put, List.setIfInBounds_toArray, List.set_cons_zero, List.set_cons_succ])
    refine wpAnyH_ready (rs := [0, 2]) (by kernel_rfl) (by simp) ?_
    refine AllReadyH.cons (o := _) rfl (fun K hK => ?_) ?_
    · go_simp
      refine hK.out _ _ ?_ (fun hHeld => ?_)
      · ((try dsimp only); exact hHeld)
      clear hK K
      (try simp only [List.getElem_toArray, List.getElem_cons_succ, List.getElem_cons_zero, Act.put, List.setIfInBounds_toArray, List.set_cons_zero, List.set_cons_succ])
      refine wpAnyH_ready (rs := [2]) (by kernel_rfl) (by simp) ?_
      refine AllReadyH.cons (o := _) rfl (fun K hK => ?_) AllReadyH.nil
      go_simp
      (with_reducible refine (HLN.out _).mono ?_)
      rintro e w2 ⟨rfl, h2⟩
      have cn2 := kcell h2 cn
      have hn2 := (h2.block bn (lt_of_block hnd)).trans hnd
      have fz2 : w2.frozen? ⟨bn, 0, none⟩ = false := fofr hn2 0
      have y2 := hyd.later h2
      refine hK.out _ _ ?_ (fun hHeld => ?_)
      · ((try dsimp only); exact ⟨y2.c0, y2.c1⟩)
      clear hK K
      (try simp only [List.getElem_toArray, List.getElem_cons_succ, List.getElem_cons_zero, Act.put, List.setIfInBounds_toArray, List.set_cons_zero, List.set_cons_succ])
      refine wpAnyH_take (i := 3) (oi := _) (v := ?_) rfl (by kernel_rfl) (by kernel_rfl) (by kernel_rfl) (fun _ _ _ h => h) (Or.inl ⟨by rfl, ?_⟩) (by assumption) ?_
      rotate_left
      · (first | (intro v hSw; (try dsimp only at hSw); go_simp; done) | (intro v hSw; (try dsimp only at hSw); go_simp; with_reducible rfl))
      (try simp only [List.getElem_toArray, List.getElem_cons_succ, List.getElem_cons_zero, Act.put, List.setIfInBounds_toArray, List.set_cons_zero, List.set_cons_succ])
      refine wpAnyH_ready (rs := [4]) (by kernel_rfl) (by simp) ?_
      refine AllReadyH.cons (o := _) rfl (fun K hK => ?_) AllReadyH.nil
      go_simp
      refine hK.out _ _ ?_ (fun hHeld => ?_)
      · ((try dsimp only); exact HST.out _ h2 _)
      clear hK K
      (try simp only [List.getElem_toArray, List.getElem_cons_succ, List.getElem_cons_zero, Act.put, List.setIfInBounds_toArray, List.set_cons_zero, List.set_cons_succ])
      refine wpAnyH_done (by kernel_rfl) ?_ _
      refine OnlyN.normal ?_
      have hn3 := (heap_setCell_same w2 bn 0 _ _ (.int .i64 (bytesL pre + lenI y)) hn2).trans rfl
      have HE := Lib.hid (HEND.out _ h2 hn3)
      clear hHeld cn2 hn2 fz2 y2 hn3 h2
      gi_wp2
      exact HE.out _
    refine AllReadyH.cons (o := _) rfl (fun K hK => ?_) AllReadyH.nil
    go_simp
    (with_reducible refine (HLN.out _).mono ?_)
    rintro e w2 ⟨rfl, h2⟩
    have cn2 := kcell h2 cn
    have hn2 := (h2.block bn (lt_of_block hnd)).trans hnd
    have fz2 : w2.frozen? ⟨bn, 0, none⟩ = false := fofr hn2 0
    have y2 := hyd.later h2
    refine hK.out _ _ ?_ (fun hHeld => ?_)
    · ((try dsimp only); exact ⟨y2.c0, y2.c1⟩)
    clear hK K
    (try simp only [List.getElem_toArray, List.getElem_cons_succ, List.getElem_cons_zero, Act.put, List.setIfInBounds_toArray, List.set_cons_zero, List.set_cons_succ])
    refine wpAnyH_ready (rs := [0]) (by kernel_rfl) (by simp) ?_
    refine AllReadyH.cons (o := _) rfl (fun K hK => ?_) AllReadyH.nil
    go_simp
    refine hK.out _ _ ?_ (fun hHeld => ?_)
    · ((try dsimp only); exact hHeld)
    clear hK K
    (try simp only [List.getElem_toArray, List.getElem_cons_succ, List.getElem_cons_zero, Act.put, List.setIfInBounds_toArray, List.set_cons_zero, List.set_cons_succ])
    refine wpAnyH_take (i := 3) (oi := _) (v := ?_) rfl (by kernel_rfl) (by kernel_rfl) (by kernel_rfl) (fun _ _ _ h => h) (Or.inl ⟨by rfl, ?_⟩) (by assumption) ?_
    rotate_left
    · (first | (intro v hSw; (try dsimp only at hSw); go_simp; done) | (intro v hSw; (try dsimp only at hSw); go_simp; with_reducible rfl))
    (try simp only [List.getElem_toArray, List.getElem_cons_succ, List.getElem_cons_zero, Act.put, List.setIfInBounds_toArray, List.set_cons_zero, List.set_cons_succ])
    refine wpAnyH_ready (rs := [4]) (by kernel_rfl) (by simp) ?_
    refine AllReadyH.cons (o := _) rfl (fun K hK => ?_) AllReadyH.nil
    go_simp
    refine hK.out _ _ ?_ (fun hHeld => ?_)
    · ((try dsimp only); exact HST.out _ h2 _)
    clear hK K
    (try simp only [List.getElem_toArray, List.getElem_cons_succ, List.getElem_cons_zero, Act.put, List.setIfInBounds_toArray, List.set_cons_zero, List.set_cons_succ])
    refine wpAnyH_done (by kernel_rfl) ?_ _
    refine OnlyN.normal ?_
    have hn3 := (heap_setCell_same w2 bn 0 _ _ (.int .i64 (bytesL pre + lenI y)) hn2).trans rfl
    have HE := Lib.hid (HEND.out _ h2 hn3)
    clear hHeld cn2 hn2 fz2 y2 hn3 h2
    gi_wp2
    exact HE.out _

  case done =>
    rintro D C X hD hCD hI hK
    have cn := cofr hI.hn 0 _ rfl
    have HB := Lib.hid hI.below
    have HK := Lib.hid hK
    have hbd2 : bn < D := by omega
    have hn13 : (X.putObj D (.deferred none)).heap[bn]? = some (.cells #[.int .i64 (bytesL L)] 3 (0, 0)) := (World.putObj_heap_other (by omega)).trans hI.hn
    have b14 := hI.below.trans ((rng.Steps.putObj (fun q => q < w.heap.size) X D (.deferred none) (by omega)).below (n := w.heap.size) hI.below.size (fun _ h => h))
    have HB14 := Lib.hid b14
    clear hI hK hn13 b14 HSEQ HWI HPR
    gi_wp2
    refine ⟨by simp, .inl ⟨_, _, rfl, run_takeDeferred HK.out, ?_⟩⟩
    exact ⟨.int .i64 (bytesL L), by simp [results, Try.results11, go_sem], rfl, HB14.out⟩
  case stop =>
    rintro D c pre C X hD hCD hI hK
    exact hI.elim
set_option maxHeartbeats 2000000 in
theorem bbytes_any {w : World} {p : Option Addr} {s : Bs} (h : BdO w p s) : Calls Try.prog 19 #[.pointer p] w (RetI (bytesL s.l) w) := by
  have HF := Lib.hid (flight_any h)
  have HW := Lib.hid (fun X (hX : Below w.heap.size w X) => bwithin_any (h.later hX) (s.una, s.nxt))
  rw [h.ok.bytes] at HW
  clear h
  go_enter Try.func19, Try.ntmps19
  go_wp2_with (first
    | (go_at_call 42; (with_reducible refine HF.out.mono ?_); rintro e w2 ⟨rfl, h2⟩; have HW2 := Lib.hid (HW.out _ h2))
    | (go_at_call 11; (with_reducible refine HW2.out.mono ?_); rintro e w3 ⟨rfl, h3⟩))
  go_ret
  exact ⟨rfl, h2.trans (h3.mono h2.size)⟩
set_option maxRecDepth 100000 in
set_option maxHeartbeats 4000000 in
theorem miss_any {w : World} {p : Option Addr} {s : Bs} (h : BdO w p s) (y : Sp) : Calls Try.prog 37 #[.pointer p, spV y] w (RetI (missN s.l y) w) := by
  have b1 := bal (w := w) (.cells #[.int .i64 y.1, .int .i64 y.2] 24)
  have s1 := sp_new w y
  have e0 := s1.c0; have e1 := s1.c1
  have HB1 := Lib.hid b1
  have HW := Lib.hid (fun X (hX : Below w.heap.size w X) => bwithin_any (h.later hX) y)
  have HLN := Lib.hid (fun X => len_any y X)
  have hlb := lenI_bd y
  have hwb := within_lt h.ok.rn y
  have hm : missN s.l y = lenI y - withinL s.l y := rfl
  generalize missN s.l y = m at *
  generalize withinL s.l y = q at *
  generalize lenI y = n at *
  have hw1 : IntKind.i64.wrap (n - q) = m := by rw [hm]; exact IntWalk.i64_in _ (by omega)
  clear h b1 hm
  go_enter Try.func37, Try.ntmps37
  go_wp2_with fail
  go_region_held3 (fun w' => w'.cell? ⟨w.heap.size, 0, none⟩ = some (.int .i64 y.1) ∧ w'.cell? ⟨w.heap.size, 1, none⟩ = some (.int .i64 y.2))
    (first | go_keep | (with_reducible exact ⟨kcell (undrew h2) e0, kcell (undrew h2) e1⟩) | (with_reducible exact ⟨kcell (undrew h3) e0, kcell (undrew h3) e1⟩) | (with_reducible exact ⟨kcell ((undrew h2).trans (h3.mono (undrew h2).size)) e0, kcell ((undrew h2).trans (h3.mono (undrew h2).size)) e1⟩) | (with_reducible exact ⟨kcell ((undrew h3).trans (h2.mono (undrew h3).size)) e0, kcell ((undrew h3).trans (h2.mono (undrew h3).size)) e1⟩))
    (first
      | ((go_at_call 35; (with_reducible refine (HLN.out _).mono ?_); rintro e w2 ⟨rfl, h2⟩))
      | ((go_at_call 11; (with_reducible refine (HW.out _ (HB1.out.trans ((undrew h2).mono HB1.out.size))).mono ?_); rintro e w3 ⟨rfl, h3⟩))
      | ((go_at_call 11; (with_reducible refine (HW.out _ HB1.out.drew).mono ?_); rintro e w3 ⟨rfl, h3⟩)))
  all_goals
    first
      | (have h23 := (undrew h2).trans (h3.mono (undrew h2).size))
      | (have h23 := (undrew h3).trans (h2.mono (undrew h3).size))
    have HQ := Lib.hid (HB1.out.trans (h23.mono HB1.out.size))
    clear h2 h3 h23 e0 e1 s1
    go_wp2
    go_ret
    exact ⟨rfl, HQ.out⟩
set_option maxRecDepth 100000 in
set_option maxHeartbeats 4000000 in
theorem bhas_any {w : World} {p : Option Addr} {s : Bs} (h : BdO w p s) (y : Sp) : Calls Try.prog 13 #[.pointer p, spV y] w (RetB (if p = none then decide (lenI y = 0) else hasN s y) w) := by
  have b1 := bal (w := w) (.cells #[.int .i64 y.1, .int .i64 y.2] 24)
  have s1 := sp_new w y
  have e0 := s1.c0; have e1 := s1.c1
  have HB1 := Lib.hid b1
  have HLN := Lib.hid (fun X => len_any y X)
  rcases h with ⟨rfl, rfl⟩ | ⟨x, tb, rfl, h⟩
  · rw [if_pos rfl]
    clear b1
    go_enter Try.func13, Try.ntmps13
    go_wp2_with (go_at_call 35; (with_reducible refine (HLN.out _).mono ?_); rintro e w2 ⟨rfl, h2⟩)
    go_ret
    exact ⟨by first | rfl | exact ret_b (by simp), HB1.out.trans (h2.mono HB1.out.size)⟩
  · rw [if_neg (by simp)]
    have HM := Lib.hid (fun X (hX : Below w.heap.size w X) => miss_any (h.o.later hX) (fromP y s.una))
    have HFR := Lib.hid (fun X => sp.from_any y s.una X)
    obtain ⟨c0, c1, c2⟩ := (h.later b1).cells
    have hh : hasN s y = decide (missN s.l (fromP y s.una) = 0) := rfl
    rw [hh]
    generalize missN s.l (fromP y s.una) = m at *
    generalize fromP y s.una = z at *
    clear b1 h c1 c2 hh
    go_enter Try.func13, Try.ntmps13
    go_wp2_with fail
    go_region_held3 (fun w' => w'.cell? ⟨x, 0, none⟩ = some (.int .i64 s.una) ∧ w'.cell? ⟨w.heap.size, 0, none⟩ = some (.int .i64 y.1) ∧ w'.cell? ⟨w.heap.size, 1, none⟩ = some (.int .i64 y.2))
      (first | go_keep | (with_reducible exact ⟨kcell (undrew h2) c0, kcell (undrew h2) e0, kcell (undrew h2) e1⟩) | (with_reducible exact ⟨kcell ((undrew h2).trans (h3.mono (undrew h2).size)) c0, kcell ((undrew h2).trans (h3.mono (undrew h2).size)) e0, kcell ((undrew h2).trans (h3.mono (undrew h2).size)) e1⟩))
      (first
        | ((go_at_call 38; (with_reducible refine (HFR.out _).mono ?_); rintro e w2 ⟨rfl, h2⟩))
        | ((go_at_call 37; (with_reducible refine (HM.out _ (HB1.out.trans ((undrew h2).mono HB1.out.size))).mono ?_); rintro e w3 ⟨rfl, h3⟩)))
    all_goals
      have h23 := (undrew h2).trans (h3.mono (undrew h2).size)
      have HQ := Lib.hid (HB1.out.trans (h23.mono HB1.out.size))
      clear h2 h3 h23 e0 e1 s1 c0
      go_wp2
      go_ret
      exact ⟨by first | rfl | exact ret_b (by simp), HQ.out⟩
end Go.Proofs.Ytegbkeichkifnaa.bd
/-!   Package board: High.
-/
namespace Go.Proofs.Ytegbkeichkifnaa.bd
open Go.RowKit Go.Shelf aid mem rng sp rn bv
attribute [local go_sem] Oper.semAt_some
set_option linter.unusedVariables false
set_option linter.unusedSimpArgs false

/-- a zero box was made behind a world -/
structure ZB (W0 W : World) : Prop where
  z : W.heap[W0.heap.size]? = some zS
  below : Below W0.heap.size W0 W
theorem zb_new (W0 : World) {W : World} (hb : Below (W0.alloc zS).heap.size (W0.alloc zS) W) : ZB W0 W := by
  have h := heap_alloc_new W0 zS
  have b := bal (w := W0) zS
  exact ⟨(hb.block _ (lt_of_block h)).trans h, b.trans (hb.mono b.size)⟩
theorem zb_newd (W0 : World) {W : World} (hb : Below (W0.alloc zS).drew.heap.size (W0.alloc zS).drew W) : ZB W0 W := zb_new W0 ((Below.refl (W0.alloc zS).heap.size (W0.alloc zS)).drew.trans hb)
structure HH (w : World) (x tb : Nat) (s : Bs) (V : World) : Prop where
  bd : BdAt V x tb s
  below : Below w.heap.size w V
theorem HH.later {w V V' : World} {x tb : Nat} {s : Bs} (h : HH w x tb s V) (hb : Below V.heap.size V V') : HH w x tb s V' := ⟨h.bd.later hb, h.below.trans (hb.mono h.below.size)⟩
/-- the box is written: what lay ahead of it lies as it lay -/
theorem HH.put {w W0 W : World} {x tb : Nat} {s : Bs} (F : HH w x tb s W0) (G : ZB W0 W) (u : Sp) :
    HH w x tb s ((W.setCell ⟨W0.heap.size, 0, none⟩ (.int .i64 u.1)).setCell ⟨W0.heap.size, 1, none⟩ (.int .i64 u.2)) ∧ ((W.setCell ⟨W0.heap.size, 0, none⟩ (.int .i64 u.1)).setCell ⟨W0.heap.size, 1, none⟩ (.int .i64 u.2)).cell? ⟨W0.heap.size, 1, none⟩ = some (.int .i64 u.2) := by
  obtain ⟨r1, r2⟩ := bx_put (w := W0) (v := (0, 0)) (u := u) G.z (Nat.le_refl _) G.below
  exact ⟨F.later r2, (bx_c r1).2.1⟩
theorem high_oK (s : Bs) : highN s = if (oK (s.l.getLast?.map ky)).2.2 = true then (oK (s.l.getLast?.map ky)).2.1.2 else s.una := by
  unfold highN
  cases s.l.getLast? <;> rfl
set_option maxRecDepth 100000 in
set_option maxHeartbeats 4000000 in
theorem high_any {w : World} {p : Option Addr} {s : Bs} (h : BdO w p s) : Calls Try.prog 21 #[.pointer p] w (RetI (highN s) w) := by
  rcases h with ⟨rfl, rfl⟩ | ⟨x, tb, rfl, h⟩
  · go_enter Try.func21, Try.ntmps21
    go_wp2
    go_ret
    exact ⟨rfl, Below.refl _ _⟩
  · have HLN := Lib.hid (fun V (F : HH w x tb s V) => tl_len F.bd.tl)
    have HAT := Lib.hid (fun V (F : HH w x tb s V) => tl_last F.bd.tl (by have := h.ok.len; omega))
    have hll := h.ok.len
    have hlw : IntKind.i64.wrap ((s.l.length : Int) - 1) = (s.l.length : Int) - 1 := IntWalk.i64_in _ (by omega)
    have F0 : HH w x tb s w := ⟨h, Below.refl _ _⟩
    have F : HH w x tb s w.drew := ⟨h.later (Below.refl _ _).drew, (Below.refl _ _).drew⟩
    obtain ⟨c0, c1, c2⟩ := F.bd.cells
    rw [high_oK]
    rw [tupO_eq] at HAT
    generalize oK (s.l.getLast?.map ky) = o at *
    obtain ⟨ok, ov, ob⟩ := o
    simp only at HAT ⊢
    clear h
    go_enter Try.func21, Try.ntmps21
    go_upto_region 3 with fail
    go_region_held3 (fun V => V.cell? ⟨x, 2, none⟩ = some (.pointer (some ⟨tb, 0, none⟩))) (first | with_reducible exact c2 | with_reducible exact F.bd.cells.2.2 | with_reducible exact (F.later (bal _)).bd.cells.2.2 | with_reducible exact ((F0.later (bal _)).later (Below.refl _ _).drew).bd.cells.2.2 | with_reducible exact (F.later G.below).bd.cells.2.2 | with_reducible exact (F.put G ov).1.bd.cells.2.2 | go_keep)
      (first
        | (go_at_call 44; (first | (with_reducible refine (HLN.out _ F).mono ?_) | (with_reducible refine (HLN.out _ (F.later (bal _))).mono ?_) | (with_reducible refine (HLN.out _ ((F0.later (bal _)).later (Below.refl _ _).drew)).mono ?_)); rintro e w5 ⟨rfl, rfl⟩)
        | (go_at_call 43; (first | (with_reducible refine (HAT.out _ F).mono ?_) | (with_reducible refine (HAT.out _ (F.later (bal _))).mono ?_) | (with_reducible refine (HAT.out _ ((F0.later (bal _)).later (Below.refl _ _).drew)).mono ?_)); rintro e w6 ⟨rfl, q6⟩; first | (replace F := F.later q6; clear q6) | (have G := zb_newd _ q6; replace F := F0; clear q6; obtain ⟨z0, z1, z2, z3⟩ := bx_c (v := (0, 0)) G.z) | (have G := zb_new _ q6; clear q6; obtain ⟨z0, z1, z2, z3⟩ := bx_c (v := (0, 0)) G.z)))
    · have F9 := F.later (bal (w := w6) (vS ov))
      have d0 := F9.bd.cells.1
      have d1 := (bx_c (heap_alloc_new w6 (vS ov))).2.1
      have HR := Lib.hid F9.below
      clear F F9 c0 c1 c2
      cases ob
      all_goals
        go_wp2
        go_ret
        exact ⟨rfl, HR.out⟩
    all_goals
      obtain ⟨F9, d1⟩ := F.put G ov
      have d0 := F9.bd.cells.1
      have HR := Lib.hid F9.below
      clear F F9 c0 c1 c2 z0 z1 z2 z3 G
      cases ob
      all_goals
        go_wp2
        go_ret
        exact ⟨rfl, HR.out⟩
end Go.Proofs.Ytegbkeichkifnaa.bd
/-!   Package board: All.
-/
namespace Go.Proofs.Ytegbkeichkifnaa.bd
open Go.RowKit Go.Shelf aid mem rng sp rn bv
attribute [local go_sem] Oper.semAt_some
set_option linter.unusedVariables false
set_option linter.unusedSimpArgs false

theorem bears_mono {β : Type} {n m : Nat} {J : β → (Nat → Prop) → World → Prop} (h : Bears n J) (hnm : n ≤ m) : Bears m J := fun s C X Y hj hz hs =>
  h s C X Y hj (Nat.le_trans hnm hz) (hs.mono (fun k _ hk => hk.imp (fun q => Nat.lt_of_lt_of_le q hnm) id))
/-- an iterator is run by somebody else's yield, whose blocks are known -/
theorem seq_pass {g : Nat} {lb : Array Value} {L : List Sp} {A : Nat → Prop} {w V : World} (h : SeqOf Try.prog g lb spE L A V)
    {l : Nat} {J Jx : List Sp → (Nat → Prop) → World → Prop} {C0 : Nat → Prop} {W : World} (hWV : Below W.heap.size W V) (hC : ∀ k, C0 k → k < W.heap.size) (hA : ∀ k, C0 k → A k)
    (hJ : Bears W.heap.size J) (hJx : Bears W.heap.size Jx)
    (hY : ∀ pre x C W1, J pre C W1 → W.heap.size ≤ W1.heap.size → pre ++ [x] <+: L → Yd Try.prog l (spE x) W1 fun e W' =>
      ∃ C', Round C W1 C' W' ∧ ((e = .returned (.bool true) ∧ J (pre ++ [x]) C' W') ∨ (e = .returned (.bool false) ∧ Jx (pre ++ [x]) C' W')))
    (h0 : J [] C0 W) : Calls Try.prog g (#[.func (.yield l) #[] #[]] ++ lb) V fun e W' => (∃ v, e = .returned v) ∧ ∃ C', It C0 W C' W' ∧ (J L C' W' ∨ ∃ pre, Jx pre C' W') := by
  have hz := hWV.size
  have hst := Steps.of_below hWV (fun k => k < W.heap.size ∨ C0 k)
  refine (h l (fun pre C X => J pre C X ∧ It C0 W C X) (fun pre C X => Jx pre C X ∧ It C0 W C X) C0 V (Below.refl _ _) (fun k hk => ⟨.inl (hA k hk), Nat.lt_of_lt_of_le (hC k hk) hz⟩) ?_ ?_ ?_ ⟨hJ _ _ _ _ h0 (Nat.le_refl _) hst, (It.refl hC).own hst⟩).mono ?_
  · rintro pre C X Y ⟨h1, h2⟩ hzz hs
    have hs' := hs.mono (K' := fun k => k < W.heap.size ∨ C k) (fun k _ hk => hk.imp (fun q => Nat.lt_of_lt_of_le q hz) id)
    exact ⟨hJ _ _ _ _ h1 (Nat.le_trans hz hzz) hs', h2.own hs'⟩
  · rintro pre C X Y ⟨h1, h2⟩ hzz hs
    have hs' := hs.mono (K' := fun k => k < W.heap.size ∨ C k) (fun k _ hk => hk.imp (fun q => Nat.lt_of_lt_of_le q hz) id)
    exact ⟨hJx _ _ _ _ h1 (Nat.le_trans hz hzz) hs', h2.own hs'⟩
  · rintro pre x C W1 ⟨h1, h2⟩ hzz hp
    refine (hY pre x C W1 h1 (Nat.le_trans hz hzz) hp).mono ?_
    rintro e W' ⟨C', hr, ⟨rfl, hj⟩ | ⟨rfl, hj⟩⟩
    · exact ⟨C', hr, .inl ⟨rfl, hj, h2.round hr⟩⟩
    · exact ⟨C', hr, .inr ⟨rfl, hj, h2.round hr⟩⟩
  · rintro e W' ⟨hv, C', ⟨h1, h2⟩ | ⟨pre, h1, h2⟩⟩
    · exact ⟨hv, C', h2, .inl h1⟩
    · exact ⟨hv, C', h2, .inr ⟨pre, h1⟩⟩
set_option maxRecDepth 100000 in
set_option maxHeartbeats 4000000 in
theorem all1_seq {w0 w : World} {p : Option Addr} {s : Bs} {bx : Nat} {A : Nat → Prop} (hb0 : Below w0.heap.size w0 w) (h : BdO w0 p s) (hx : w.cell? ⟨bx, 0, none⟩ = some (.pointer p)) (hax : ¬ A bx) (hA : FarR w0 w A) :
    SeqOf Try.prog 67 #[.pointer (some ⟨bx, 0, none⟩)] spE s.l A w := by
  intro l' J Jx C0 W hW hC hJ hJx hY h0
  have hbW := hb0.trans (hW.mono hb0.size)
  have hF := hA.sub hb0 hC
  have cx := kcell hW hx
  have nx : ¬ C0 bx := fun e => by
    rcases (hC _ e).1 with q | q
    · exact hax q
    · have := World.block_lt_of_cell? w _ hx; simp only at this; omega
  have HFL := Lib.hid (fun X (hX : Below W.heap.size W X) => flight_any (h.later (hbW.trans (hX.mono hbW.size))))
  have HP := Lib.hid (fun X (hX : Below W.heap.size W X) => bparts_any (hbW.trans (hX.mono hbW.size)) h (s.una, s.nxt) C0 (hF.later hX))
  rw [h.ok.all] at HP
  have HR := Lib.hid (fun V lb (hWV : Below W.heap.size W V) (hq : SeqOf Try.prog 74 lb spE s.l C0 V) => seq_pass (w := w) hq hWV (fun k hk => (hC k hk).2) (fun k hk => hk) hJ hJx hY h0)
  have HD := Lib.hid (Below.refl W.heap.size W).drew
  have k0 : W.drew.cell? ⟨bx, 0, none⟩ = some (.pointer p) := cx
  clear hJ hJx hY h0 hC hW hx hA hF hax hb0 hbW h
  show Calls Try.prog 67 #[.func (.yield l') #[] #[], .pointer (some ⟨bx, 0, none⟩)] W _
  go_enter Try.func67, Try.ntmps67
  go_wp2
  go_region_held3 (fun w' => w'.cell? ⟨bx, 0, none⟩ = some (.pointer p)) (with_reducible first | exact k0 | exact k1 | exact k2 | exact k3 | go_keep) (first
    | (go_at_call 42; (with_reducible refine (HFL.out _ HD.out).mono ?_); rintro e w2 ⟨rfl, h2⟩; have H2 := Lib.hid (undrew h2); have k1 := kcell (undrew h2) cx; clear h2)
    | (go_at_call 34; (with_reducible refine (HP.out _ H2.out).mono ?_); rintro e w3 ⟨lb, rfl, hs, h3⟩; have H3 := Lib.hid (H2.out.trans (h3.mono H2.out.size)); have HS := Lib.hid hs; have k2 := kcell h3 k1; clear h3 hs)
    | (go_at_call 74; go_must (with_reducible refine (HR.out _ _ H3.out HS.out).mono ?_); rintro e w4 ⟨⟨v, rfl⟩, C', hI, hres⟩; have HE := Lib.hid hres; have k3 := hI.kept.cell (p := ⟨bx, 0, none⟩) nx cx; clear hres hI))
  all_goals
    go_wp2
    go_end0
    exact ⟨⟨_, rfl⟩, C', HE.out⟩
end Go.Proofs.Ytegbkeichkifnaa.bd
/-!   Package board: Holes.
-/
namespace Go.Proofs.Ytegbkeichkifnaa.bd
open Go.RowKit Go.Shelf aid mem rng sp rn bv
attribute [local go_sem] Oper.semAt_some
set_option linter.unusedVariables false
set_option linter.unusedSimpArgs false

theorem eg_all (args : Array Value) (w : World) : (callFunc 67 args).run Try.prog w = .ok (.enter 67 args) w := by kernel_rfl
theorem ball_any {w0 w : World} {p : Option Addr} {s : Bs} (hb0 : Below w0.heap.size w0 w) (h : BdO w0 p s) (A : Nat → Prop) (hA : FarR w0 w A) :
    Calls Try.prog 47 #[.pointer p] w (SeqS 67 s.l A w) := by
  have b1 := bal (w := w) (.cells #[.pointer p] 26)
  have x1 := heap_alloc_new w (.cells #[.pointer p] 26)
  have c1 := cofr x1 0 _ rfl
  have HF := Lib.hid (show SeqS 67 s.l A w (.returned (.func (.func 67) #[] #[.pointer (some ⟨w.heap.size, 0, none⟩)])) _ from
    ⟨_, rfl, all1_seq (A := A) (hb0.trans (b1.mono hb0.size)) h c1 (fun e => by have := (hA _ e).1; omega) (hA.later b1), b1⟩)
  clear b1 x1 c1 hA h hb0
  go_enter Try.func47, Try.ntmps47
  go_wp2_with fail
  go_ret
  exact HF.out
/-- where the last one ended -/
def lastE (pre : List Sp) (u : Int) : Int := (pre.getLast?.map (fun x => x.2)).getD u
theorem lastE_snoc (pre : List Sp) (y : Sp) (u : Int) : lastE (pre ++ [y]) u = y.2 := by unfold lastE; simp
theorem holes_snoc : ∀ (pre : List Sp) (y : Sp) (u : Int), holesC (pre ++ [y]) u = holesC pre u ++ ne (lastE pre u, y.1) := by
  intro pre
  induction pre with
  | nil => intro y u; simp [holesC, lastE]
  | cons x pre ih =>
    intro y u
    rw [List.cons_append, holesC, ih, holesC, List.append_assoc]
    congr 2
    unfold lastE
    cases pre with
    | nil => rfl
    | cons z r => rw [List.getLast?_cons_cons]; cases hq : (z :: r).getLast? with
      | none => simp at hq
      | some v => rfl
theorem holes_append : ∀ (pre r : List Sp) (u : Int), ∃ t, holesC (pre ++ r) u = holesC pre u ++ t := by
  intro pre
  induction pre with
  | nil => intro r u; exact ⟨_, rfl⟩
  | cons x pre ih =>
    intro r u
    obtain ⟨t, e⟩ := ih r x.2
    exact ⟨t, by rw [List.cons_append, holesC, e, holesC, List.append_assoc]⟩
theorem holes_prefix {L pre : List Sp} {y : Sp} {u : Int} (hp : pre ++ [y] <+: L) : holesC pre u ++ ne (lastE pre u, y.1) <+: holesC L u := by
  obtain ⟨r, rfl⟩ := hp
  obtain ⟨t, e⟩ := holes_append (pre ++ [y]) r u
  rw [e, holes_snoc]
  exact List.prefix_append _ _
/-- between two rounds -/
structure Gh (W : World) (C0 : Nat → Prop) (F l : Nat) (u : Int) (J : List Sp → (Nat → Prop) → World → Prop) (pre : List Sp) (Co C : Nat → Prop) (X : World) : Prop where
  gv : Gv W C0 l (fun pre => holesC pre u) J pre Co C X
  cF : C F
  nF : ¬ Co F
  fr : X.heap[F]? = some (.cells #[.int .i64 (lastE pre u)] 3 (0, 0))
def GhI (W : World) (C0 : Nat → Prop) (F l : Nat) (u : Int) (J : List Sp → (Nat → Prop) → World → Prop) (pre : List Sp) (C : Nat → Prop) (X : World) : Prop := ∃ Co, Gh W C0 F l u J pre Co C X
def GhB (W : World) (C0 : Nat → Prop) (F l : Nat) (u : Int) (J : List Sp → (Nat → Prop) → World → Prop) (D : Nat) (pre : List Sp) (b : Nat) (y : Sp) (C : Nat → Prop) (X : World) : Prop :=
  ∃ Co, Gh W C0 F l u J pre Co C X ∧ SpAt X b y ∧ C b ∧ ¬ Co b ∧ D ≤ b
theorem gh_own {W : World} {C0 : Nat → Prop} {F l D : Nat} {u : Int} {J : List Sp → (Nat → Prop) → World → Prop} {pre : List Sp} {Co C : Nat → Prop} {X Y : World} (hJ : Bears W.heap.size J) (hD : W.heap.size < D) (h : Gh W C0 F l u J pre Co C X) (hs : rng.Steps (fun k => k < D ∨ C k) X Y) : Gh W C0 F l u J pre Co C Y :=
  ⟨gv_own hJ hD h.gv hs, h.cF, h.nF, hs.heap (.inr h.cF) h.fr⟩
theorem gh_next {W : World} {C0 : Nat → Prop} {F l : Nat} {u : Int} {J : List Sp → (Nat → Prop) → World → Prop} {pre : List Sp} {Co C C2 : Nat → Prop} {X Z V : World} {y : Sp} {t : List Sp} (hJ : Bears W.heap.size J) (h : Gh W C0 F l u J pre Co C X) (hW : W.heap.size < X.heap.size) (hF : W.heap.size < F)
    (hb : Below X.heap.size X Z) (hit : It C0 W Co Z) (hr : Round Co Z C2 V) (hj : J t C2 V) (ht : holesC (pre ++ [y]) u = t) :
    ∃ C', Round C X C' (V.setCell ⟨F, 0, none⟩ (.int .i64 y.2)) ∧ GhI W C0 F l u J (pre ++ [y]) C' (V.setCell ⟨F, 0, none⟩ (.int .i64 y.2)) := by
  have hFX := lt_of_block h.fr
  have hXZ := hb.size
  have nF2 : ¬ C2 F := fun e => by
    rcases hr.2 _ e with a | a
    · exact h.nF a
    · omega
  have n2 : ¬ C2 W.heap.size := fun e => by
    rcases hr.2 _ e with a | a
    · exact h.gv.nX a
    · omega
  have hfV := hr.1.heap (k := F) h.nF ((hb.block _ hFX).trans h.fr)
  have hyV := hr.1.cell (p := ⟨W.heap.size, 0, none⟩) h.gv.nX (kcell hb h.gv.yd)
  have hitV := hit.round hr
  have s1 : rng.Steps (fun k => k < W.heap.size ∨ C2 k) V (V.setCell ⟨F, 0, none⟩ (.int .i64 y.2)) := rng.Steps.setCell _ V ⟨F, 0, none⟩ _ (by rintro (e | e); simp only at e; omega; exact nF2 e)
  refine ⟨fun k => C k ∨ C2 k, ((Round.of_below hb C).trans (C' := C) (C'' := fun k => C k ∨ C2 k) (D := V) ⟨hr.1.mono (fun k _ hk e => hk (h.gv.sub k e)), fun k hk => ?_⟩).trans ⟨rng.Steps.setCell _ V ⟨F, 0, none⟩ _ (fun e => e (.inl h.cF)), fun k hk => .inl hk⟩, C2,
    ⟨⟨fun k hk => .inr hk, by show J (holesC (pre ++ [y]) u) _ _; rw [ht]; exact hJ _ _ _ _ hj hitV.kept.size s1, hitV.own s1, n2, (rng.Steps.setCell (fun k => k = W.heap.size) V ⟨F, 0, none⟩ _ (by simp only; omega)).cell rfl hyV⟩, .inl h.cF, nF2, ?_⟩⟩
  · rcases hk with hk | hk
    · exact .inl hk
    · rcases hr.2 k hk with a | a
      · exact .inl (h.gv.sub k a)
      · exact .inr a
  · rw [lastE_snoc]
    exact (heap_setCell_same V F 0 _ _ _ hfV).trans rfl
set_option maxRecDepth 100000 in
set_option maxHeartbeats 4000000 in
theorem holes1_seq {w0 w : World} {p : Option Addr} {s : Bs} {bx : Nat} {A : Nat → Prop} (hb0 : Below w0.heap.size w0 w) (h : BdO w0 p s) (hx : w.cell? ⟨bx, 0, none⟩ = some (.pointer p)) (hA : FarR w0 w A) :
    SeqOf Try.prog 69 #[.pointer (some ⟨bx, 0, none⟩)] spE (holesC s.l s.una) A w := by
  intro l' J Jx C0 W hW hC hJ hJx hY h0
  have hbW := hb0.trans (hW.mono hb0.size)
  have hF := hA.sub hb0 hC
  have cx := kcell hW hx
  show Calls Try.prog 69 #[.func (.yield l') #[] #[], .pointer (some ⟨bx, 0, none⟩)] W _
  refine (callsIn_wide (n := 6)).1 ?_
  refine callsIn_of_wp_marks Try.func69 rfl trivial ?_ rfl
  simp only [Try.ntmps69, List.size_toArray, List.length_cons, List.length_nil, Nat.reduceAdd, Nat.reduceSub, Array.replicate_succ, Array.replicate_zero, List.push_toArray, List.append_toArray, List.nil_append, List.cons_append]
  have b1 := bal (w := W) (.cells #[.func (.yield l') #[] #[]] 40)
  have y1 := heap_alloc_new W (.cells #[.func (.yield l') #[] #[]] 40)
  have hz1 : (W.alloc (.cells #[.func (.yield l') #[] #[]] 40)).heap.size = W.heap.size + 1 := by simp
  have b2 := bal (w := W.alloc (.cells #[.func (.yield l') #[] #[]] 40)) (.cells #[.int .i64 s.una] 3)
  have f2 := heap_alloc_new (W.alloc (.cells #[.func (.yield l') #[] #[]] 40)) (.cells #[.int .i64 s.una] 3)
  rw [hz1] at f2
  have b12 := b1.trans (b2.mono b1.size)
  have y2 := (b2.block _ (lt_of_block y1)).trans y1
  have hz2 : ((W.alloc (.cells #[.func (.yield l') #[] #[]] 40)).alloc (.cells #[.int .i64 s.una] 3)).heap.size = W.heap.size + 1 + 1 := by simp
  have HY := Lib.hid hY
  have HJ := Lib.hid hJ
  have HJX := Lib.hid hJx
  have HC0 := Lib.hid (fun k hk => (hC k hk).2)
  have H0 := Lib.hid h0
  have HU := Lib.hid (una_any (h.later (hbW.trans (b1.mono hbW.size))))
  have HAL := Lib.hid (ball_any (hbW.trans (b12.mono hbW.size)) h (fun k => C0 k ∨ k = W.heap.size + 1) (fun k hk => by
    rcases hk with hk | rfl
    · exact hF.later b12 k hk
    · exact ⟨by omega, fun cs e => by have := lt_of_block e; have := hbW.size; omega⟩))
  have q0 := kcell b1 cx
  have q1 := kcell b12 cx
  have HS2 := Lib.hid (And.intro b12 (And.intro y2 (And.intro f2 hz2)))
  clear hY hJ hJx hC h0 hx h hF cx hA hW hb0 hbW b1 y1 hz1 b2 f2 b12 y2 hz2
  gi_wp2
  refine ⟨trivial, ?_⟩
  refine (callsIn_wide.2 HU.out).mono ?_
  rintro e w2 ⟨rfl, rfl⟩
  gi_wp2
  refine ⟨trivial, ?_⟩
  refine (callsIn_wide.2 HAL.out).mono ?_
  rintro e w5 ⟨lb, rfl, hseq, h5⟩
  obtain ⟨b12, y2, f2, hz2⟩ := HS2.out
  have hb5 := b12.trans (h5.mono b12.size)
  have hz5 := h5.size
  rw [hz2] at hz5
  have hF5 := (h5.block _ (lt_of_block f2)).trans f2
  have hY5 := cofr ((h5.block _ (lt_of_block y2)).trans y2) 0 _ rfl
  have HSEQ := Lib.hid hseq
  clear hseq h5 b12 y2 f2 hz2 HS2 HAL HU q0 q1
  obtain ⟨F, hFe⟩ : ∃ F, F = W.heap.size + 1 := ⟨_, rfl⟩
  rw [← hFe] at hF5 HSEQ hz5 ⊢
  have hWF : W.heap.size < F := by omega
  have hF5s : F < w5.heap.size := by omega
  have hWz : W.heap.size < w5.heap.size := by omega
  clear hFe
  have HGI : Hid (GhI W C0 F l' s.una J [] (fun k => C0 k ∨ k = F) w5) := Lib.hid (by
    have g := gv_zero (tl := fun pre => holesC pre s.una) HJ.out HC0.out H0.out hb5 hY5
    exact ⟨C0, ⟨⟨fun k hk => .inl hk, g.j, g.it, g.nX, g.yd⟩, .inr rfl, fun e => by have := HC0.out _ e; omega, hF5⟩⟩)
  clear hF5 hY5 hb5
  generalize hgu : s.una = u at *
  generalize hgl : s.l = L at *
  have HGU := Lib.hid hgu
  have HGL := Lib.hid hgl
  clear hgu hgl
  have hmo : Try.prog.follows .mixedOrders = true := by kernel_rfl
  gi_wp2
  refine wpIn_rangeBoxP (fun (b : Nat) (y : Sp) (t : Array Value) => (t.setIfInBounds 10 (spV y)).setIfInBounds 4 (.pointer (some ⟨b, 0, none⟩))) (gf := 67) (lb := lb) (L := L) (A := fun k => C0 k ∨ k = F) (w0 := w5) (encs := spE) rfl eg_all HSEQ.out (Below.refl _ _) (fun _ => rfl)
    (GhI W C0 F l' u J) (GvX (holesC L u) J Jx) (fun k => C0 k ∨ k = F) ?hc0 ?hI (gvx_bears HJ.out HJX.out (by omega)) HGI.out (GhB W C0 F l' u J w5.heap.size) ?hB ?assign ?body ?done ?stop
  case hc0 =>
    intro k hk
    refine ⟨.inl hk, ?_⟩
    rcases hk with hk | rfl
    · have := HC0.out k hk; omega
    · exact hF5s
  case hI =>
    rintro pre C X Y ⟨Co, h⟩ hz hs
    exact ⟨Co, gh_own HJ.out (by omega) h hs⟩
  case hB =>
    rintro pre b y _ C X Y ⟨Co, h, h1, h2, h3, h4⟩ hz hs
    exact ⟨Co, gh_own HJ.out (by omega) h hs, hs.heap (.inr h2) h1, h2, h3, h4⟩
  case assign =>
    rintro l2 pre y C X K ⟨Co, hI⟩ hp hc hz hK
    obtain ⟨g1, g2, g3⟩ := gv_box HJ.out hI.gv (by omega) y
    have b1 := bal (w := X) (.cells #[.int .i64 y.1, .int .i64 y.2] 24)
    have hg2 : Gh W C0 F l' u J pre Co (fun k => C k ∨ k = X.heap.size) (X.alloc (.cells #[.int .i64 y.1, .int .i64 y.2] 24)) := ⟨g2, .inl hI.cF, hI.nF, (b1.block _ (lt_of_block hI.fr)).trans hI.fr⟩
    have HK := Lib.hid (hK X.heap.size _ _ g1 ⟨Co, hg2⟩ ⟨Co, hg2, sp_new X y, .inr rfl, g3, hz⟩)
    clear hK hI hp hc g1 g2 g3 hg2 b1
    gi_wp2
    exact HK.out
  case body =>
    rintro l2 pre y b C X _ ⟨Co, hI, hyb, hCb, hnb, hbD⟩ hp hcc hz
    have hpr := holes_prefix (u := u) hp
    have hsn := holes_snoc pre y u
    have hfr := hI.fr
    have HI := Lib.hid hI
    generalize lastE pre u = f at *
    have HLN := Lib.hid (fun X => len_any (f, y.1) X)
    have HPR := Lib.hid hpr
    have HSN := Lib.hid hsn
    have hyd := hI.gv.yd
    have e0 := cofr hfr 0 _ rfl
    have e2 := hyb.c0
    have hWX : W.heap.size < X.heap.size := by omega
    clear hpr hsn hI hcc HSEQ HGI hp
    simp only [List.setIfInBounds_toArray, List.set_cons_zero, List.set_cons_succ]
    generalize hRP : rPost (GhI W C0 F l' u J) (GvX (holesC L u) J Jx) (pre ++ [y]) C X = RP at *
    have HRN := Lib.hid (fun (C' : Nat → Prop) (W' : World) (hr : Round C X C' W') (hg : GhI W C0 F l' u J (pre ++ [y]) C' W') (a' : Act) => show RP .normal a' W' from by rw [← hRP]; exact ⟨C', hr, hg⟩)
    have HRR := Lib.hid (fun (C' : Nat → Prop) (W' : World) (hr : Round C X C' W') (hg : GvX (holesC L u) J Jx .ret (pre ++ [y]) C' W') (a' : Act) => show RP .ret a' W' from by rw [← hRP]; exact ⟨C', hr, hg⟩)
    clear hRP
    have b3 := bal (w := X) (.cells #[.int .i64 f, .int .i64 y.1] 24)
    have m3 := sp_new X (f, y.1)
    have hyd3 := kcell b3 hyd
    have d0 := m3.c0; have d1 := m3.c1
    gi_wp2
    refine ⟨trivial, ?_⟩
    refine (callsIn_wide.2 (HLN.out _)).mono ?_
    rintro e w4 ⟨rfl, h4⟩
    have h34 := b3.trans (h4.mono b3.size)
    have m4 := m3.later h4
    have hyd4 := kcell h4 hyd3
    have y4 := hyb.later h34
    have fr4 := (h34.block _ (lt_of_block hfr)).trans hfr
    clear d0 d1 hyd3 m3 h4 b3 HLN e0 e2 hyd
    have hg4 := gh_own (D := X.heap.size) HJ.out (by omega) HI.out (Steps.of_below h34 _)
    by_cases hm : 0 < lenI (f, y.1)
    · have hne : ne (f, y.1) = [(f, y.1)] := by unfold ne; rw [if_neg (by omega)]
      have hpr := HPR.out
      rw [hne] at hpr
      have hyq := HY.out _ _ Co w4 hg4.gv.j hg4.gv.it.kept.size hpr
      obtain ⟨fn, tmps, assign, body, hyy, hYY⟩ := hyq.inRound l2 3
      have q0 := m4.c0; have q1 := m4.c1
      have HNE := Lib.hid hne
      have HG4 := Lib.hid hg4
      have HH := Lib.hid h34
      have HY4 := Lib.hid y4
      have HF4 := Lib.hid fr4
      clear hyq hpr hne hg4 h34 m4 y4 fr4 hfr hyb
      gi_wp2
      refine hYY.mono ?_
      clear hyy hYY q0 q1
      rintro e w6 ⟨C2, hr2, ⟨rfl, hJ2⟩ | ⟨rfl, hJ2⟩⟩
      · obtain ⟨C', hrr, hgg⟩ := gh_next (y := y) HJ.out HI.out hWX hWF HH.out HG4.out.gv.it hr2 hJ2 (by rw [HSN.out, HNE.out])
        have y6 : SpAt w6 b y := hr2.1.heap hnb HY4.out
        have f6 := hr2.1.heap (k := F) HG4.out.nF HF4.out
        have g0 := y6.c1
        have g1 := cofr f6 0 _ rfl; have g2 := fofr f6 0
        have HFIN := Lib.hid (HRN.out C' _ hrr hgg)
        clear hrr hgg hr2 hJ2 hyd4 hm y6 f6
        gi_wp2
        exact HFIN.out _
      · obtain ⟨C', hrr, hgg⟩ := gv_stop (J := J) (xs := pre ++ [y]) (all := holesC L u) HI.out.gv HH.out hr2 hJ2
        have HFIN := Lib.hid (HRR.out C' _ hrr hgg)
        clear hrr hgg hr2 hJ2 hyd4 hm
        gi_wp2
        exact HFIN.out _
    · have hne : ne (f, y.1) = [] := by unfold ne; rw [if_pos (by have := (lenI_bd (f, y.1)).1; omega)]
      obtain ⟨C', hrr, hgg⟩ := gh_next (y := y) HJ.out HI.out hWX hWF h34 hg4.gv.it (Round.refl _ _) hg4.gv.j (by rw [HSN.out, hne, List.append_nil])
      have HFIN := Lib.hid (HRN.out C' _ hrr hgg)
      have q0 := m4.c0; have q1 := m4.c1
      have g0 := y4.c1
      have g1 := cofr fr4 0 _ rfl; have g2 := fofr fr4 0
      clear hrr hgg hg4 hyd4 hne m4 h34 y4 fr4 hfr hyb
      gi_wp2
      refine ⟨(fun f hf => by cases hf), ?_⟩
      gi_wp2
      exact HFIN.out _
  case done =>
    rintro D C X hD hCD ⟨Co, hI⟩ hK
    have hnD : ¬ Co D := fun e => hCD (hI.gv.sub _ e)
    have HF := Lib.hid (HJ.out _ _ _ _ hI.gv.j hI.gv.it.kept.size (rng.Steps.putObj (fun k => k < W.heap.size ∨ Co k) X D (.deferred none) (by rintro (e | e); omega; exact hnD e)))
    have HK4 := Lib.hid hK
    clear hI hK HGI HSEQ hnD
    gi_wp2
    refine ⟨by simp, .inl ⟨_, _, rfl, run_takeDeferred HK4.out, ?_⟩⟩
    exact ⟨_, results_none rfl _ _ _, ⟨_, rfl⟩, Co, .inl (by rw [HGU.out, HGL.out]; exact HF.out)⟩
  case stop =>
    rintro D c pre C X hD hCD ⟨rfl, Co, h1, hj⟩ hK
    have hX : W.heap.size ≤ X.heap.size := by have := lt_of_block hK; omega
    have hst := rng.Steps.putObj (fun k => k < W.heap.size ∨ Co k) X D (.deferred none) (by rintro (e | e); omega; exact hCD (h1 _ e))
    have HF : Hid (∃ C', J (holesC L u) C' (X.putObj D (.deferred none)) ∨ ∃ told, Jx told C' (X.putObj D (.deferred none))) := Lib.hid (by
      rcases hj with hj | ⟨told, hj⟩
      · exact ⟨Co, .inl (HJ.out _ _ _ _ hj hX hst)⟩
      · exact ⟨Co, .inr ⟨told, HJX.out _ _ _ _ hj hX hst⟩⟩)
    have HK4 := Lib.hid hK
    clear hj hst hK HGI HSEQ
    gi_wp2
    refine ⟨by simp, .inl ⟨_, _, rfl, run_takeDeferred HK4.out, ?_⟩⟩
    exact ⟨_, results_none rfl _ _ _, ⟨_, rfl⟩, by rw [HGU.out, HGL.out]; exact HF.out⟩
theorem eg_holes (args : Array Value) (w : World) : (callFunc 69 args).run Try.prog w = .ok (.enter 69 args) w := by kernel_rfl
theorem bholes_any {w0 w : World} {p : Option Addr} {s : Bs} (hb0 : Below w0.heap.size w0 w) (h : BdO w0 p s) (A : Nat → Prop) (hA : FarR w0 w A) :
    Calls Try.prog 49 #[.pointer p] w (SeqS 69 (gapsL s.l (s.una, highN s)) A w) := by
  rw [← h.ok.holes]
  have b1 := bal (w := w) (.cells #[.pointer p] 26)
  have x1 := heap_alloc_new w (.cells #[.pointer p] 26)
  have c1 := cofr x1 0 _ rfl
  have HF := Lib.hid (show SeqS 69 (holesC s.l s.una) A w (.returned (.func (.func 69) #[] #[.pointer (some ⟨w.heap.size, 0, none⟩)])) _ from
    ⟨_, rfl, holes1_seq (A := A) (hb0.trans (b1.mono hb0.size)) h c1 (hA.later b1), b1⟩)
  clear b1 x1 c1 hA h hb0
  go_enter Try.func49, Try.ntmps49
  go_wp2_with fail
  go_ret
  exact HF.out
end Go.Proofs.Ytegbkeichkifnaa.bd
/-!   Package board: New, Sent, Ack, Sack.
-/
namespace Go.Proofs.Ytegbkeichkifnaa.bd
open Go.RowKit Go.Shelf aid mem rng sp rn bv
attribute [local go_sem ↓] Go.wp_at_zero Go.wp_at_succ
attribute [local go_sem] Oper.semAt_some
set_option linter.unusedVariables false
set_option linter.unusedSimpArgs false

/-- a tree lies as it lay when a block of another kind is written -/
theorem TL.other {w w' : World} {b x : Nat} {l : List Sp} {cs : Array Value} (h : TL w b l) (hx : w.heap[x]? = some (.cells cs 59 (0, 0))) (hk : Kept [x] w w') : TL w' b l := by
  obtain ⟨t, ⟨q, h1, h2⟩, h3⟩ := h
  have key : ∀ (k : Nat) (cs' : Array Value) (ty : TypeId), ty ≠ 59 → w.heap[k]? = some (.cells cs' ty (0, 0)) → w'.heap[k]? = w.heap[k]? := fun k cs' ty hty hk' => by
    refine hk.block k (lt_of_block hk') (fun e => ?_)
    simp only [List.mem_singleton] at e
    subst e
    rw [hx] at hk'
    injection hk' with hk'
    injection hk' with _ hk' _
    exact hty hk'.symm
  exact ⟨t, ⟨q, (key b _ _ (by decide) h1).trans h1, h2.keepT (fun x cs hx => key x cs _ (by decide) hx)⟩, h3⟩
theorem kset2 (w : World) (b o : Nat) (u : Value) : Kept [b] w (w.setCell ⟨b, o, none⟩ u) := (Kept.refl [b] w).setCell (.inl (by simp)) u
/-- a board is made -/
def RetNew (u : Int) (w : World) (e : Ending) (w' : World) : Prop :=
  ∃ x tb, e = .returned (.tuple #[.pointer (some ⟨x, 0, none⟩), .int .i64 0]) ∧ BdAt w' x tb (newS u) ∧ Below w.heap.size w w' ∧ w.heap.size ≤ x ∧ w.heap.size ≤ tb
set_option maxHeartbeats 2000000 in
theorem spans_any (w : World) : Calls Try.prog 26 #[] w fun e w' => e = .returned (.agg #[.pointer (some ⟨w.heap.size + 1, 0, none⟩)]) ∧ TL w' (w.heap.size + 1) [] ∧ Below w.heap.size w w' := by
  have b1 := bal (w := w) (.cells #[.pointer none] 56)
  have x1 := heap_alloc_new w (.cells #[.pointer none] 56)
  have hz1 : (w.alloc (.cells #[.pointer none] 56)).heap.size = w.heap.size + 1 := by simp
  have HN := Lib.hid (bv.new_any (w.alloc (.cells #[.pointer none] 56)))
  rw [hz1] at HN
  have HB := Lib.hid b1
  have HX := Lib.hid x1
  clear b1 x1 hz1
  go_enter Try.func26, Try.ntmps26
  go_wp2_with (go_at_call 51; (with_reducible refine HN.out.mono ?_); rintro e w2 ⟨rfl, hT, h2⟩; have x2 := (h2.block _ (by have := lt_of_block HX.out; omega)).trans HX.out; have HT := Lib.hid hT; have c0 := cofr x2 0 _ rfl; have f0 := fofr x2 0; have HH2 := Lib.hid h2; have HX2 := Lib.hid x2; clear hT h2 x2)
  have hs := (heap_setCell_same w2 w.heap.size 0 _ _ (.pointer (some ⟨w.heap.size + 1, 0, none⟩)) HX2.out).trans rfl
  have d0 := cofr hs 0 _ rfl
  have HF : Hid (TL (w2.setCell ⟨w.heap.size, 0, none⟩ (.pointer (some ⟨w.heap.size + 1, 0, none⟩))) (w.heap.size + 1) [] ∧ Below w.heap.size w (w2.setCell ⟨w.heap.size, 0, none⟩ (.pointer (some ⟨w.heap.size + 1, 0, none⟩)))) := Lib.hid ⟨by
    obtain ⟨q, h1, h2⟩ := HT.out
    exact ⟨.nil, ⟨q, (Below.heap_setCell w2 ⟨w.heap.size, 0, none⟩ _ _ (by simp)).trans h1, h2⟩, rfl, Rn.nil⟩, (HB.out.trans (HH2.out.mono (Nat.le_succ _))).setCell (by simp) _⟩
  exact bodyPost_ret (v := .agg #[.pointer (some ⟨w.heap.size + 1, 0, none⟩)]) (by simp [results, Try.results26, go_sem, d0]) rfl ⟨rfl, HF.out.1, HF.out.2⟩
set_option maxHeartbeats 2000000 in
theorem bnew_bad {u : Int} (hb : ¬ (0 ≤ u ∧ u ≤ 4611686018427387904)) (w : World) : Calls Try.prog 8 #[.int .i64 u] w fun e w' => e = .returned (.tuple #[.pointer none, .int .i64 3]) ∧ w = w' := by
  by_cases h1 : u < 0
  · go_enter Try.func8, Try.ntmps8
    go_wp2
    exact bodyPost_ret (v := .tuple #[.pointer none, .int .i64 3]) (by simp [results, Try.results8, go_sem]) rfl ⟨rfl, rfl⟩
  · have h2 : 4611686018427387904 < u := by omega
    clear hb
    go_enter Try.func8, Try.ntmps8
    go_wp2
    exact bodyPost_ret (v := .tuple #[.pointer none, .int .i64 3]) (by simp [results, Try.results8, go_sem]) rfl ⟨rfl, rfl⟩
set_option maxHeartbeats 2000000 in
theorem bnew_ok {u : Int} (h1 : 0 ≤ u) (h2 : u ≤ 4611686018427387904) (w : World) : Calls Try.prog 8 #[.int .i64 u] w (RetNew u w) := by
  have HN := Lib.hid (spans_any w)
  have g1 : ¬ u < 0 := by omega
  have g2 : ¬ 4611686018427387904 < u := by omega
  go_enter Try.func8, Try.ntmps8
  go_wp2_with (go_at_call 26; (with_reducible refine HN.out.mono ?_); rintro e w2 ⟨rfl, hT, hb2⟩; have HT := Lib.hid hT; have HB2 := Lib.hid hb2; clear hT hb2)
  have b3 := bal (w := w2) (bdC (newS u) (w.heap.size + 1))
  exact bodyPost_ret (v := .tuple #[.pointer (some ⟨w2.heap.size, 0, none⟩), .int .i64 0]) (by simp [results, Try.results8, go_sem]) rfl ⟨w2.heap.size, w.heap.size + 1, rfl, ⟨heap_alloc_new w2 _, HT.out.later b3, bok_new h1 h2⟩, HB2.out.trans (b3.mono HB2.out.size), HB2.out.size, Nat.le_succ _⟩
set_option maxHeartbeats 2000000 in
theorem bsent_any {w : World} {x tb : Nat} {s : Bs} (h : BdAt w x tb s) (t : Int) (ht : -9223372036854775808 ≤ t ∧ t ≤ 9223372036854775807) : Calls Try.prog 15 #[.pointer (some ⟨x, 0, none⟩), .int .i64 t] w fun e w' => e = .returned (.int .i64 (sentN s t).1) ∧ BdAt w' x tb (sentN s t).2 ∧ Kept [x, tb] w w' := by
  have hok := sent_ok h.ok t
  obtain ⟨c0, c1, c2⟩ := h.cells
  have f1 := fofr h.cel 1
  have hw : IntKind.i64.wrap (t - s.una) = t - s.una ∨ t < s.nxt ∨ 4611686018427387904 < t := by
    by_cases a : t < s.nxt
    · exact .inr (.inl a)
    · exact .inl (IntWalk.i64_in _ (by have := h.ok.lo; have := h.ok.le; omega))
  have HD := Lib.hid h
  have HP : Hid (BdAt (w.setCell ⟨x, 1, none⟩ (.int .i64 t)) x tb ⟨s.una, t, s.l⟩ ∨ ¬ BOk ⟨s.una, t, s.l⟩) := Lib.hid (by
    rcases Classical.em (BOk ⟨s.una, t, s.l⟩) with e | e
    · exact .inl ⟨(heap_setCell_same w x 1 _ _ _ h.cel).trans rfl, h.tl.other h.cel (kset2 w x 1 _), e⟩
    · exact .inr e)
  by_cases a : t < s.nxt
  · have e : sentN s t = (3, s) := by unfold sentN; rw [if_pos (.inl a)]
    rw [e]
    clear h hok
    go_enter Try.func15, Try.ntmps15
    go_wp2
    go_ret
    exact ⟨rfl, HD.out, Kept.refl _ _⟩
  · by_cases b : 4611686018427387904 < t
    · have e : sentN s t = (3, s) := by unfold sentN; rw [if_pos (.inr (.inl b))]
      rw [e]
      clear h hok
      go_enter Try.func15, Try.ntmps15
      go_wp2
      go_ret
      exact ⟨rfl, HD.out, Kept.refl _ _⟩
    · have hw' : IntKind.i64.wrap (t - s.una) = t - s.una := by rcases hw with q | q | q; exact q; exact absurd q a; exact absurd q b
      by_cases c : 65536 < t - s.una
      · have e : sentN s t = (3, s) := by unfold sentN; rw [if_pos (.inr (.inr c))]
        rw [e]
        clear h hok hw
        go_enter Try.func15, Try.ntmps15
        go_wp2
        go_ret
        exact ⟨rfl, HD.out, Kept.refl _ _⟩
      · have e : sentN s t = (0, ⟨s.una, t, s.l⟩) := by unfold sentN; rw [if_neg (by omega)]
        rw [e] at hok ⊢
        have HP' := Lib.hid (HP.out.resolve_right (fun q => q hok))
        clear h hok hw HP
        go_enter Try.func15, Try.ntmps15
        go_wp2
        go_ret
        exact ⟨rfl, HP'.out, (kset2 w x 1 _).mono (by simp)⟩
set_option maxHeartbeats 2000000 in
theorem back_any' {w : World} {x tb : Nat} {s : Bs} (h : BdAt w x tb s) (t : Int) : Calls Try.prog 16 #[.pointer (some ⟨x, 0, none⟩), .int .i64 t] w fun e w' => e = .returned (.tuple #[.int .i64 (ackN s t).1, .int .i64 (ackN s t).2.1]) ∧ BdAt w' x tb (ackN s t).2.2 ∧ Kept [x, tb] w w' := by
  have hok := ack_ok h.ok t
  obtain ⟨c0, c1, c2⟩ := h.cells
  have HD := Lib.hid h
  by_cases a : t < s.una
  · have e : ackN s t = (0, 11, s) := by unfold ackN; rw [if_pos a]
    rw [e]
    clear h hok
    go_enter Try.func16, Try.ntmps16
    go_wp2
    exact bodyPost_ret (v := .tuple #[.int .i64 0, .int .i64 11]) (by simp [results, Try.results16, go_sem]) rfl ⟨rfl, HD.out, Kept.refl _ _⟩
  · by_cases b : s.nxt < t
    · have e : ackN s t = (0, 12, s) := by unfold ackN; rw [if_neg a, if_pos b]
      rw [e]
      clear h hok
      go_enter Try.func16, Try.ntmps16
      go_wp2
      exact bodyPost_ret (v := .tuple #[.int .i64 0, .int .i64 12]) (by simp [results, Try.results16, go_sem]) rfl ⟨rfl, HD.out, Kept.refl _ _⟩
    · have e : ackN s t = (missN s.l (s.una, t), 0, ⟨t, s.nxt, refWo s.l (s.una, t)⟩) := by unfold ackN; rw [if_neg a, if_neg b]; rfl
      rw [e] at hok ⊢
      rw [← h.ok.drop (by omega) (by omega)] at hok ⊢
      have HM := Lib.hid (miss_any h.o (s.una, t))
      have hlen := h.ok.len
      have HDR := Lib.hid (fun W (hT : TL W tb s.l) => drop_any t hT hlen)
      have HOK := Lib.hid hok
      generalize missN s.l (s.una, t) = n at *
      generalize dropL s.l t = L at *
      clear h hok
      go_enter Try.func16, Try.ntmps16
      go_wp2_with (first
        | (go_at_call 37; (with_reducible refine HM.out.mono ?_); rintro e w2 ⟨rfl, h2⟩; have hD2 := HD.out.later h2; have cc := hD2.cel; have d0 := cofr cc 0 _ rfl; have d1 := cofr cc 1 _ rfl; have d2 := cofr cc 2 _ rfl; have f0 := fofr cc 0; have hcel := (heap_setCell_same w2 x 0 _ _ (.int .i64 t) cc).trans rfl; have g2 := cofr hcel 2 _ rfl; have HTT := Lib.hid (hD2.tl.other cc (kset2 w2 x 0 (.int .i64 t))); have HCEL := Lib.hid hcel; have HK3 := Lib.hid (((Kept.of_below h2 (Nat.le_refl _) [x, tb])).trans (kset2 w2 x 0 (.int .i64 t)) (by simp)); have hxt := HD.out.ne; clear h2 hD2 cc hcel)
        | (go_at_call 40; go_must (with_reducible refine (HDR.out _ HTT.out).mono ?_); rintro e w4 ⟨⟨q, rfl⟩, hT4, hk4⟩; have hc4 := hk4.heap (by simpa using hxt) HCEL.out; have HK4 := Lib.hid (HK3.out.trans hk4 (by simp)); have HF := Lib.hid (show BdAt w4 x tb ⟨t, s.nxt, L⟩ from ⟨hc4, hT4, HOK.out⟩); clear hT4 hk4 hc4))
      exact bodyPost_ret (v := .tuple #[.int .i64 n, .int .i64 0]) (by simp [results, Try.results16, go_sem]) rfl ⟨rfl, HF.out, HK4.out⟩
end Go.Proofs.Ytegbkeichkifnaa.bd
/-!   Package board: Sack.
-/
namespace Go.Proofs.Ytegbkeichkifnaa.bd
open Go.RowKit Go.Shelf aid mem rng sp rn bv
attribute [local go_sem ↓] Go.wp_at_zero Go.wp_at_succ
attribute [local go_sem] Oper.semAt_some
set_option linter.unusedVariables false
set_option linter.unusedSimpArgs false

theorem sack_zero {s : Bs} {y : Sp} (h : BOk s) (h1 : ¬ lenI y = 0) (h2 : ¬ s.nxt < y.2) (hm : missN s.l (fromP y s.una) = 0) : sackN s y = (0, 0, s) := by
  have hw := wi_same h.rn (x := fromP y s.una) hm
  have := h.len
  unfold sackN
  rw [if_neg h1, if_neg h2, hw, if_neg (by omega), Int.sub_self]
theorem sack_full {s : Bs} {y : Sp} (h1 : ¬ lenI y = 0) (h2 : ¬ s.nxt < y.2) (hl : 4096 < (refWi s.l (fromP y s.una)).length) : sackN s y = (0, 4, s) := by
  unfold sackN
  rw [if_neg h1, if_neg h2, if_pos hl]
theorem sack_in {s : Bs} {y : Sp} (h : BOk s) (h1 : ¬ lenI y = 0) (h2 : ¬ s.nxt < y.2) (hl : ¬ 4096 < (refWi s.l (fromP y s.una)).length) : sackN s y = (missN s.l (fromP y s.una), 0, ⟨s.una, s.nxt, refWi s.l (fromP y s.una)⟩) := by
  unfold sackN
  rw [if_neg h1, if_neg h2, if_neg hl, wi_miss h.rn]
set_option maxRecDepth 100000 in
set_option maxHeartbeats 4000000 in
theorem bsack_any {w : World} {x tb : Nat} {s : Bs} (h : BdAt w x tb s) (y : Sp) : Calls Try.prog 17 #[.pointer (some ⟨x, 0, none⟩), spV y] w fun e w' => e = .returned (.tuple #[.int .i64 (sackN s y).1, .int .i64 (sackN s y).2.1]) ∧ BdAt w' x tb (sackN s y).2.2 ∧ Kept [x, tb] w w' := by
  have b1 := bal (w := w) (.cells #[.int .i64 y.1, .int .i64 y.2] 24)
  have s1 := sp_new w y
  have hD1 := h.later b1
  have hlx := h.lt
  have hxt := h.ne
  have HLN := Lib.hid (fun X => len_any y X)
  have q0 := s1.c0; have q1 := s1.c1
  have HK1 := Lib.hid (Kept.of_below b1 (Nat.le_refl _) [x, tb])
  by_cases g1 : lenI y = 0
  · have e : sackN s y = (0, 3, s) := by unfold sackN; rw [if_pos g1]
    rw [e]
    have HD := Lib.hid hD1
    clear h b1 s1 hD1
    go_enter Try.func17, Try.ntmps17
    go_wp2_with (go_at_call 35; (with_reducible refine (HLN.out _).mono ?_); rintro e w2 ⟨rfl, h2⟩; have HB2 := Lib.hid h2; clear h2)
    exact bodyPost_ret (v := .tuple #[.int .i64 0, .int .i64 3]) (by simp [results, Try.results17, go_sem]) rfl ⟨rfl, HD.out.later HB2.out, HK1.out.trans (Kept.of_below HB2.out (Nat.le_refl _) [x, tb]) (fun k hk => .inl hk)⟩
  · have HS1 := Lib.hid s1
    have HD1 := Lib.hid hD1
    by_cases g2 : s.nxt < y.2
    · have e : sackN s y = (0, 12, s) := by unfold sackN; rw [if_neg g1, if_pos g2]
      rw [e]
      clear h b1 s1 hD1
      go_enter Try.func17, Try.ntmps17
      go_wp2_with (go_at_call 35; (with_reducible refine (HLN.out _).mono ?_); rintro e w2 ⟨rfl, h2⟩; have HB2 := Lib.hid h2; have p1 := (HS1.out.later h2).c1; have p2 := (HD1.out.later h2).cells.2.1; clear h2 q0 q1)
      go_quiet (fail)
      go_wp2
      have HB3 := Lib.hid (HB2.out.trans ((sp.bdN w2 nq).mono HB2.out.size))
      exact bodyPost_ret (v := .tuple #[.int .i64 0, .int .i64 12]) (by simp [results, Try.results17, go_sem]) rfl ⟨rfl, HD1.out.later HB3.out, HK1.out.trans (Kept.of_below HB3.out (Nat.le_refl _) [x, tb]) (fun k hk => .inl hk)⟩
    · have HFR := Lib.hid (fun X => sp.from_any y s.una X)
      have HZ := Lib.hid (sack_zero (y := y) h.ok g1 g2)
      have HF := Lib.hid (sack_full (s := s) g1 g2)
      have HI := Lib.hid (sack_in (y := y) h.ok g1 g2)
      have HOK := Lib.hid (sack_ok h.ok y)
      have hln := h.ok.len
      have hrk : missN s.l (fromP y s.una) ≠ 0 → ROk (fromP y s.una) := fun hm => by
        by_cases c : lenI (fromP y s.una) = 0
        · exfalso
          apply hm
          have := within_lt h.ok.rn (fromP y s.una)
          unfold missN
          omega
        · exact len_pos_ok c
      generalize fromP y s.una = z at *
      have HM := Lib.hid (fun X (hX : BdAt X x tb s) => miss_any hX.o z)
      have HRK := Lib.hid hrk
      have HAD := Lib.hid (fun X (hX : TL X tb s.l) (hz : ROk z) => add_any hX hln hz)
      have HB1 := Lib.hid b1
      have H0 := Lib.hid h
      clear h b1 s1 hD1 hrk
      go_enter Try.func17, Try.ntmps17
      go_wp2_with (go_at_call 35; (with_reducible refine (HLN.out _).mono ?_); rintro e w2 ⟨rfl, h2⟩; have HD2 := Lib.hid (HD1.out.later h2); have HS2 := Lib.hid (HS1.out.later h2); have HW2 := Lib.hid (HB1.out.trans (h2.mono HB1.out.size)); have p0 := HS2.out.c0; have p1 := HS2.out.c1; have p2 := HD2.out.cells.2.1; clear h2 q0 q1)
      go_quiet (fail)
      go_wp2
      have HB3 := Lib.hid (sp.bdN w2 nq)
      have HW3 := Lib.hid (HW2.out.trans (HB3.out.mono HW2.out.size))
      have HD3 := Lib.hid (HD2.out.later HB3.out)
      have HS3 := Lib.hid (HS2.out.later HB3.out)
      generalize w2.drewN nq = w3 at *
      clear p0 p1 p2
      have p0 : w3.drew.cell? ⟨w.heap.size, 0, none⟩ = some (.int .i64 y.1) := HS3.out.c0
      have p1 : w3.drew.cell? ⟨w.heap.size, 1, none⟩ = some (.int .i64 y.2) := HS3.out.c1
      have p2 : w3.drew.cell? ⟨x, 0, none⟩ = some (.int .i64 s.una) := HD3.out.cells.1
      refine wp_region_noPanic ?_
      refine wp_region_held_drew (S := (fun w' => w'.cell? ⟨x, 0, none⟩ = some (.int .i64 s.una))) (by kernel_rfl) ?_ (fun hHeld => ?_)
      · ((try dsimp only); exact p2)
      refine wpAnyH_take (i := 1) (oi := _) (v := ?_) rfl (by kernel_rfl) (by kernel_rfl) (by kernel_rfl) (fun _ _ _ h => h) (Or.inl ⟨by rfl, ?_⟩) (by assumption) ?_
      rotate_left
      · (first | (intro v hSw; (try dsimp only at hSw); go_simp; done) | (intro v hSw; (try dsimp only at hSw); go_simp; with_reducible rfl))
      refine wpAnyH_take (i := 2) (oi := _) (v := ?_) rfl (by kernel_rfl) (by kernel_rfl) (by kernel_rfl) (fun _ _ _ h => h) (Or.inl ⟨by rfl, ?_⟩) (by assumption) ?_
      rotate_left
      · (first | (intro v hSw; (try dsimp only at hSw); go_simp; done) | (intro v hSw; (try dsimp only at hSw); go_simp; with_reducible rfl))
      refine wpAnyH_take (i := 3) (oi := _) (v := ?_) rfl (by kernel_rfl) (by kernel_rfl) (by kernel_rfl) (fun _ _ _ h => h) (Or.inl ⟨by rfl, ?_⟩) (by assumption) ?_
      rotate_left
      · (first | (intro v hSw; (try dsimp only at hSw); go_simp; done) | (intro v hSw; (try dsimp only at hSw); go_simp; with_reducible rfl))
      refine wpAnyH_take (i := 4) (oi := _) (v := ?_) rfl (by kernel_rfl) (by kernel_rfl) (by kernel_rfl) (fun _ _ _ h => h) (Or.inl ⟨by rfl, ?_⟩) (by assumption) ?_
      rotate_left
      · (first | (intro v hSw; (try dsimp only at hSw); go_simp; done) | (intro v hSw; (try dsimp only at hSw); go_simp; with_reducible rfl))
      refine wpAnyH_ready (rs := [0]) (by kernel_rfl) (by simp) ?_
      refine AllReadyH.cons (o := _) rfl (fun K hK => ?_) AllReadyH.nil
      go_simp
      refine hK.out _ _ ?_ (fun hHeld => ?_)
      · ((try dsimp only); exact p2)
      clear hK K
      refine wpAnyH_ready (rs := [5]) (by kernel_rfl) (by simp) ?_
      refine AllReadyH.cons (o := _) rfl (fun K hK => ?_) AllReadyH.nil
      go_simp
      refine (HFR.out _).mono ?_
      rintro e w4 ⟨rfl, h4⟩
      have h34 : Below w3.heap.size w3 w4 := undrew h4
      have hW4 := HW3.out.trans (h34.mono HW3.out.size)
      have s4 := HS3.out.later h34
      have f0 := s4.f0; have f1 := s4.f1; have g0 := s4.c0; have g1 := s4.c1
      have d4 := H0.out.later hW4
      have e4 := d4.cells.1
      have s5 := s4.put z.1 z.2
      have hW5 : Below w.heap.size w ((w4.setCell ⟨w.heap.size, 0, none⟩ (.int .i64 z.1)).setCell ⟨w.heap.size, 1, none⟩ (.int .i64 z.2)) := (hW4.setCell (p := ⟨w.heap.size, 0, none⟩) (by simp) _).setCell (p := ⟨w.heap.size, 1, none⟩) (by simp) _
      have d5 := H0.out.later hW5
      have e5 := d5.cells.1
      refine hK.out _ _ ?_ (fun hHeld => ?_)
      · ((try dsimp only); exact e4)
      clear hK K
      refine wpAnyH_ready (rs := [6]) (by kernel_rfl) (by simp) ?_
      refine AllReadyH.cons (o := _) rfl (fun K hK => ?_) AllReadyH.nil
      go_simp
      refine hK.out _ _ ?_ (fun hHeld => ?_)
      · ((try dsimp only); exact e5)
      clear hK K
      refine wpAnyH_done (by kernel_rfl) ?_ _
      refine NoPanic.normal ?_
      generalize (w4.setCell ⟨w.heap.size, 0, none⟩ (.int .i64 z.1)).setCell ⟨w.heap.size, 1, none⟩ (.int .i64 z.2) = w5 at *
      have HS5 := Lib.hid s5
      have HD5 := Lib.hid d5
      have HW5 := Lib.hid hW5
      have r0 := HS5.out.c0; have r1 := HS5.out.c1
      have HM5 := Lib.hid (HM.out w5 d5)
      clear hW4 s4 f0 f1 g0 g1 d4 e4 s5 hW5 d5 e5 p0 p1 p2 h34 h4 hHeld
      have hmw : missN s.l z = missN s.l z := rfl
      go_wp2_with (go_at_call 37; (with_reducible refine HM5.out.mono ?_); rintro e w6 ⟨rfl, h6⟩; have HS6 := Lib.hid (HS5.out.later h6); have HD6 := Lib.hid (HD5.out.later h6); have HW6 := Lib.hid (HW5.out.trans (h6.mono HW5.out.size)); clear h6 r0 r1; by_cases hm : missN s.l z = 0)
      · rw [HZ.out hm]
        exact bodyPost_ret (v := .tuple #[.int .i64 0, .int .i64 0]) (by simp [results, Try.results17, go_sem]) rfl ⟨rfl, HD6.out, Kept.of_below HW6.out (Nat.le_refl _) [x, tb]⟩
      · have hrk := HRK.out hm
        have HD7 := Lib.hid (HD6.out.later (Below.refl _ _).drew)
        have HS7 := Lib.hid (HS6.out.later (Below.refl w6.heap.size w6).drew)
        have HW7 := Lib.hid (HW6.out.trans (((Below.refl w6.heap.size w6).drew).mono HW6.out.size))
        have HA7 := Lib.hid (HAD.out w6.drew HD7.out.tl hrk)
        have k0 : w6.drew.cell? ⟨x, 2, none⟩ = some (.pointer (some ⟨tb, 0, none⟩)) ∧ w6.drew.cell? ⟨w.heap.size, 0, none⟩ = some (.int .i64 z.1) ∧ w6.drew.cell? ⟨w.heap.size, 1, none⟩ = some (.int .i64 z.2) := ⟨HD7.out.cells.2.2, HS7.out.c0, HS7.out.c1⟩
        have hxb : x ∉ [tb] := by simpa using hxt
        have hwb : w.heap.size ∉ [tb] := by have := hlx.2; simp; omega
        by_cases hl : 4096 < (refWi s.l z).length
        · rw [if_pos hl, if_pos hl] at HA7
          go_region_held3 (fun w' => w'.cell? ⟨x, 2, none⟩ = some (.pointer (some ⟨tb, 0, none⟩)) ∧ w'.cell? ⟨w.heap.size, 0, none⟩ = some (.int .i64 z.1) ∧ w'.cell? ⟨w.heap.size, 1, none⟩ = some (.int .i64 z.2)) (with_reducible first | exact k0 | exact k1 | go_keep) (
            (go_at_call 41; go_must (with_reducible refine HA7.out.mono ?_); rintro e w8 ⟨rfl, hT8, hk8⟩; have HT8 := Lib.hid hT8; have HK8 := Lib.hid hk8; have k1 := And.intro (hk8.cell (p := ⟨x, 2, none⟩) hxb k0.1) (And.intro (hk8.cell (p := ⟨w.heap.size, 0, none⟩) hwb k0.2.1) (hk8.cell (p := ⟨w.heap.size, 1, none⟩) hwb k0.2.2)); clear hT8 hk8))
          all_goals
            have hF : BdAt w8 x tb s := ⟨HK8.out.heap hxb HD7.out.cel, HT8.out, HD7.out.ok⟩
            have HFF := Lib.hid hF
            have HKK := Lib.hid ((Kept.of_below HW7.out (Nat.le_refl _) [x, tb]).trans HK8.out (by simp))
            clear k0 k1 hF
            go_wp2
            rw [HF.out hl]
            exact bodyPost_ret (v := .tuple #[.int .i64 0, .int .i64 4]) (by simp [results, Try.results17, go_sem]) rfl ⟨rfl, HFF.out, HKK.out⟩
        · have HO := HOK.out
          rw [HI.out hl] at HO
          rw [if_neg hl, if_neg hl] at HA7
          have HOO := Lib.hid HO
          clear HO
          go_region_held3 (fun w' => w'.cell? ⟨x, 2, none⟩ = some (.pointer (some ⟨tb, 0, none⟩)) ∧ w'.cell? ⟨w.heap.size, 0, none⟩ = some (.int .i64 z.1) ∧ w'.cell? ⟨w.heap.size, 1, none⟩ = some (.int .i64 z.2)) (with_reducible first | exact k0 | exact k1 | go_keep) (
            (go_at_call 41; go_must (with_reducible refine HA7.out.mono ?_); rintro e w8 ⟨rfl, hT8, hk8⟩; have HT8 := Lib.hid hT8; have HK8 := Lib.hid hk8; have k1 := And.intro (hk8.cell (p := ⟨x, 2, none⟩) hxb k0.1) (And.intro (hk8.cell (p := ⟨w.heap.size, 0, none⟩) hwb k0.2.1) (hk8.cell (p := ⟨w.heap.size, 1, none⟩) hwb k0.2.2)); clear hT8 hk8))
          all_goals
            have hF : BdAt w8 x tb ⟨s.una, s.nxt, refWi s.l z⟩ := ⟨HK8.out.heap hxb HD7.out.cel, HT8.out, HOO.out⟩
            have HFF := Lib.hid hF
            have HKK := Lib.hid ((Kept.of_below HW7.out (Nat.le_refl _) [x, tb]).trans HK8.out (by simp))
            clear k0 k1 hF
            go_wp2
            rw [HI.out hl]
            exact bodyPost_ret (v := .tuple #[.int .i64 (missN s.l z), .int .i64 0]) (by simp [results, Try.results17, go_sem]) rfl ⟨rfl, HFF.out, HKK.out⟩
end Go.Proofs.Ytegbkeichkifnaa.bd
/-!   Package board: all that an iterator tells, as a list: the library's Collect, the law's told.
-/
namespace Go.Proofs.Ytegbkeichkifnaa.bd
open Go.RowKit Go.Shelf aid mem rng sp rn bv
attribute [local go_sem] Oper.semAt_some
set_option linter.unusedVariables false
set_option linter.unusedSimpArgs false

theorem holes_len : ∀ (l : List Sp) (u : Int), (holesC l u).length ≤ l.length := by
  intro l
  induction l with
  | nil => intro u; exact Nat.le_refl _
  | cons x l ih =>
    intro u
    rw [holesC, List.length_append, List.length_cons]
    have := ih x.2
    have : (ne (u, x.1)).length ≤ 1 := by unfold ne; split <;> simp
    omega
set_option maxRecDepth 100000 in
set_option maxHeartbeats 4000000 in
theorem appendseq_any {w : World} {g : Nat} {lb : Array Value} {L : List Sp} {A : Nat → Prop} (hseq : SeqOf Try.prog g lb spE L A w) (eg : ∀ args w, (callFunc g args).run Try.prog w = .ok (.enter g args) w) (hn : L.length ≤ 10000) :
    Calls Try.prog 66 #[.slice none 0 0, .func (.func g) #[] lb] w (rn.Told L w) := by
  have hb1 := bal (w := w) (.cells #[.slice none 0 0] 30)
  have hbox := heap_alloc_new w (.cells #[.slice none 0 0] 30)
  refine (callsIn_wide (n := 6)).1 ?_
  refine callsIn_of_wp_marks Try.func66 rfl trivial ?_ rfl
  simp only [Try.ntmps66, List.size_toArray, List.length_cons, List.length_nil, Nat.reduceAdd, Nat.reduceSub, Array.replicate_succ, Array.replicate_zero, List.push_toArray, List.append_toArray, List.nil_append, List.cons_append]
  obtain ⟨w2, hw2⟩ : ∃ w2, w2 = w.alloc (.cells #[.slice none 0 0] 30) := ⟨_, rfl⟩
  have hz2 : w2.heap.size = w.heap.size + 1 := by rw [hw2]; simp
  rw [← hw2] at hb1 hbox
  obtain ⟨A0, hA0⟩ : ∃ A0 : Nat → Prop, A0 = fun k => k = w.heap.size := ⟨_, rfl⟩
  have HA0 : A0 w.heap.size := by rw [hA0]
  have HSEQ := Lib.hid (hseq.later hb1 (A' := A0) (fun k hk => .inr (by rw [hA0] at hk; omega)))
  have HBW2 := Lib.hid hb1
  have HBOX2 := Lib.hid hbox
  have HLN := Lib.hid hn
  clear hb1 hbox hseq hn hA0
  gi_wp2
  rw [← hw2]
  refine wpIn_rangeBox (fun (b : Nat) (y : Sp) (t : Array Value) => (t.setIfInBounds 7 (spV y)).setIfInBounds 5 (.pointer (some ⟨b, 0, none⟩))) (gf := g) (lb := lb) (L := L) (A := A0) (w0 := w2) (encs := spE) rfl eg HSEQ.out (Below.refl _ _) (fun _ => rfl)
    (ToldI w w.heap.size) NoX (fun k => k = w.heap.size) ?hc0 (told_bears _ _ _ (by omega)) (nox_bears _) ?h0 (fun b y C X => SpAt X b y ∧ w2.heap.size ≤ b ∧ C b ∧ (∃ v0, X.heap[w.heap.size]? = some (.cells #[v0] 30 (0, 0)) ∧ v0.ownBlock ≠ some b)) ?hB ?assign ?body ?done ?stop
  case hc0 => rintro k rfl; exact ⟨.inl HA0, by omega⟩
  case h0 => exact ⟨.slice none 0 0, HBOX2.out, rfl, World.ownsRow_nil _ _ _ _, (fun k hk => by cases hk), HBW2.out⟩
  case hB =>
    rintro b y _ C X Y ⟨h1, h2, h3, v0, h4, h5⟩ hz hs
    exact ⟨hs.heap (.inr h3) h1, h2, h3, v0, hs.heap (.inl (by omega)) h4, h5⟩
  case assign =>
    rintro l' pre y C X K ⟨v, h1, h2, h3, h4, h5⟩ hp hc hz hK
    have b1 := bal (w := X) (.cells #[.int .i64 y.1, .int .i64 y.2] 24)
    have h1' := (b1.block _ (lt_of_block h1)).trans h1
    have HK := Lib.hid (hK X.heap.size (fun k => C k ∨ k = X.heap.size) _ ⟨Steps.of_below b1 _, fun k hk => by rcases hk with hk | rfl; exact .inl hk; exact .inr ⟨Nat.le_refl _, by simp⟩⟩
      ⟨v, h1', .inl h2, own_later h3 b1, fun k hk => ⟨.inl (h4 k hk).1, (h4 k hk).2⟩, h5.trans (b1.mono h5.size)⟩ ⟨sp_new X y, hz, .inr rfl, v, h1', fun e => by have := (own_in h3 e).1; omega⟩)
    clear hK h1 h1' h2 h3 h4 h5 hp hc b1
    gi_wp2
    exact HK.out
  case body =>
    rintro l' pre x b C X ⟨v, h1, h2, h3, h4, h5⟩ ⟨hyb, hb, hcb, v0, hv0, hvb0⟩ hp hcc hz
    obtain ⟨i0, hi, hz0, hz1, hz2⟩ := info_split info_span
    have hlen : pre.length < 1000000 := by
      have := hp.length_le
      have h6 := HLN.out
      rw [List.length_append, List.length_singleton] at this
      omega
    have cB := (cell_of_row X w.heap.size 0 _ _ (0, 0) h1).trans rfl
    have e0 := hyb.c0; have e1 := hyb.c1
    have hsrc := span_src X x
    have own2 := own_later h3 (bal (w := X) (.cells #[.int .i64 x.1, .int .i64 x.2] 24))
    have d1 := kcell (bal (w := X) (.cells #[.int .i64 x.1, .int .i64 x.2] 24)) cB
    have HN := Lib.hid (fun (w1 : World) (v' : Value) => told_next (w := w) (X := X) (w1 := w1) (pre := pre) (x := x) (v' := v') h1 h2 h4 h5 (Nat.le_refl _) rfl)
    have hvb := fun k hk => (own_in h3 (k := k) hk).2
    have HV := Lib.hid hvb
    have HO := Lib.hid own2
    have HSRC := Lib.hid hsrc
    have H1 := Lib.hid h1
    have H4 := Lib.hid h4
    clear h1 h2 h3 h4 h5 hp hcc hvb own2 hsrc HSEQ HBOX2 HBW2 hv0 hvb0 hyb hcb hb
    simp only [List.setIfInBounds_toArray, List.set_cons_zero, List.set_cons_succ]
    gi_wp2_with (gi_at_builtin; refine wpListIn_append_sz _ rfl (.tmp 8) (.tmp 10) 30 30 rfl w.heap.size 24 i0 (.agg #[.int .i64 0, .int .i64 0]) 2 16 Try.underlying30 hi hz0 hz1 (by decide) hz2 rfl v pre.length (spCells pre) rfl HO.out _ rfl 1 [.int .i64 x.1, .int .i64 x.2] HSRC.out (by unfold maxLen; omega) (by omega) (by simp; omega) ?_)
    intro a' cap' w1 ho hg hw
    obtain ⟨C', hr, hg'⟩ := HN.out w1 _ ho hg (by simpa using hw) HV.out
    have HF := Lib.hid (fun (aa : Act) => show rPost (ToldI w w.heap.size) NoX (pre ++ [x]) C X .normal aa _ from ⟨C', hr, hg'⟩)
    have hB1 : w1.heap[w.heap.size]? = some (.cells #[v] 30 (0, 0)) := (hg.block w.heap.size (by simp; have := lt_of_block H1.out; omega) (fun e => (H4.out _ e.symm).2 rfl)).trans ((bal (w := X) (.cells #[.int .i64 x.1, .int .i64 x.2] 24)).block _ (lt_of_block H1.out) |>.trans H1.out)
    have g0 : w1.cell? ⟨w.heap.size, 0, none⟩ = some v := (cell_of_row w1 w.heap.size 0 _ _ (0, 0) hB1).trans rfl
    have g1 : w1.frozen? ⟨w.heap.size, 0, none⟩ = false := by simp [World.frozen?, hB1]
    clear hB1 ho hg hw HO HSRC HN HV H1 H4 cB d1 e0 e1 hr hg'
    gi_wp2
    exact HF.out _
  case done =>
    rintro D C X hD hCD ⟨v, h1, h2, h3, h4, h5⟩ hK
    have cB := (cell_of_row X w.heap.size 0 _ _ (0, 0) h1).trans rfl
    have nD : ∀ k, v.ownBlock = some k → k ≠ D := by rintro k hk rfl; exact hCD (h4 _ hk).1
    have hf : (X.putObj D (.deferred none)).ownsRow w.heap.size 24 2 v (L).length (spCells (L)) := own_step h3 (fun k o hk ho => (World.putObj_heap_other (nD k hk)).trans ho)
    have hb' : Below w.heap.size w (X.putObj D (.deferred none)) := h5.trans ((rng.Steps.putObj (fun k => k < w.heap.size) X D _ (by omega)).below (n := w.heap.size) h5.size (fun k hk => hk))
    have HF := Lib.hid (show rn.Told (L) w (.returned v) (X.putObj D (.deferred none)) from ⟨v, rfl, hf, hb'⟩)
    clear h1 h2 h3 h4 h5 nD hf hb' HSEQ HBOX2 HBW2
    gi_wp2
    refine ⟨by simp, .inl ⟨_, _, rfl, run_takeDeferred hK, ?_⟩⟩
    exact ⟨v, by simp [results, Try.results66, go_sem], HF.out⟩
  case stop =>
    rintro D c pre C X _ _ h _
    exact h.elim
theorem collect_any {w : World} {g : Nat} {lb : Array Value} {L : List Sp} {A : Nat → Prop} (hseq : SeqOf Try.prog g lb spE L A w) (eg : ∀ args w, (callFunc g args).run Try.prog w = .ok (.enter g args) w) (hn : L.length ≤ 10000) :
    Calls Try.prog 46 #[.func (.func g) #[] lb] w (rn.Told L w) := by
  have HA := Lib.hid (appendseq_any hseq eg hn)
  clear hseq eg hn
  go_enter Try.func46, Try.ntmps46
  go_wp2_with (go_at_call 66; (with_reducible refine HA.out.mono ?_); rintro e w3 ⟨v, rfl, ho, hb⟩; have HO := Lib.hid ho; clear ho)
  go_ret
  exact ⟨v, rfl, HO.out, hb⟩
set_option maxRecDepth 100000 in
set_option maxHeartbeats 4000000 in
theorem btold_any {w : World} {p : Option Addr} {s : Bs} (h : BdO w p s) : Calls Try.prog 24 #[.pointer p, .bool false] w (rn.Told (s.l) w) := by
  have hb1 := bal (w := w) (.cells #[.slice none 0 0] 30)
  have hbox := heap_alloc_new w (.cells #[.slice none 0 0] 30)
  have hln := h.ok.len
  have hhl := holes_len s.l s.una
  have hgh := h.ok.holes
  refine (callsIn_wide (n := 6)).1 ?_
  refine callsIn_of_wp_marks Try.func24 rfl trivial ?_ rfl
  simp only [Try.ntmps24, List.size_toArray, List.length_cons, List.length_nil, Nat.reduceAdd, Nat.reduceSub, Array.replicate_succ, Array.replicate_zero, List.push_toArray, List.append_toArray, List.nil_append, List.cons_append]
  obtain ⟨A0, hA0⟩ : ∃ A0 : Nat → Prop, A0 = fun k => k = w.heap.size := ⟨_, rfl⟩
  have HA0 : A0 w.heap.size := by rw [hA0]
  have HF := Lib.hid (fun X (hX : Below (w.alloc (.cells #[.slice none 0 0] 30)).heap.size (w.alloc (.cells #[.slice none 0 0] 30)) X) => show FarR w X A0 from FarR.of (hb1.trans (hX.mono hb1.size)) (fun k hk => by rw [hA0] at hk; have := hX.size; simp at this; omega))
  have HAL := Lib.hid (ball_any hb1 h A0 (HF.out _ (Below.refl _ _)))
  have HHO := Lib.hid (fun X (hX : Below (w.alloc (.cells #[.slice none 0 0] 30)).heap.size (w.alloc (.cells #[.slice none 0 0] 30)) X) => bholes_any (hb1.trans (hX.mono hb1.size)) h A0 (HF.out _ hX))
  rw [← hgh] at HHO
  have HB1 := Lib.hid hb1
  have HX1 := Lib.hid hbox
  have HLN : Hid ((s.l).length ≤ 10000) := Lib.hid (by first | (rw [← hgh]; omega) | omega)
  have HGH := Lib.hid hgh
  clear hb1 hbox h hln hhl HF hA0
  clear HHO hgh
  gi_wp2
  refine ⟨trivial, ?_⟩
  refine (callsIn_wide.2 HAL.out).mono ?_
  rintro e w2 ⟨lb, rfl, hseq, h2⟩
  have hz2 := h2.size
  simp at hz2
  have HSEQ := Lib.hid hseq
  have HBW2 := Lib.hid (HB1.out.trans (h2.mono HB1.out.size))
  have HBOX2 := Lib.hid ((h2.block _ (lt_of_block HX1.out)).trans HX1.out)
  clear hseq h2 HB1 HX1 HAL
  gi_wp2
  refine wpIn_rangeBox (fun (b : Nat) (y : Sp) (t : Array Value) => (t.setIfInBounds 14 (spV y)).setIfInBounds 7 (.pointer (some ⟨b, 0, none⟩))) (gf := 67) (lb := lb) (L := s.l) (A := A0) (w0 := w2) (encs := spE) rfl eg_all HSEQ.out (Below.refl _ _) (fun _ => rfl)
    (ToldI w w.heap.size) NoX (fun k => k = w.heap.size) ?hc0 (told_bears _ _ _ (by omega)) (nox_bears _) ?h0 (fun b y C X => SpAt X b y ∧ w2.heap.size ≤ b ∧ C b ∧ (∃ v0, X.heap[w.heap.size]? = some (.cells #[v0] 30 (0, 0)) ∧ v0.ownBlock ≠ some b)) ?hB ?assign ?body ?done ?stop
  case hc0 => rintro k rfl; exact ⟨.inl HA0, by omega⟩
  case h0 => exact ⟨.slice none 0 0, HBOX2.out, rfl, World.ownsRow_nil _ _ _ _, (fun k hk => by cases hk), HBW2.out⟩
  case hB =>
    rintro b y _ C X Y ⟨h1, h2, h3, v0, h4, h5⟩ hz hs
    exact ⟨hs.heap (.inr h3) h1, h2, h3, v0, hs.heap (.inl (by omega)) h4, h5⟩
  case assign =>
    rintro l' pre y C X K ⟨v, h1, h2, h3, h4, h5⟩ hp hc hz hK
    have b1 := bal (w := X) (.cells #[.int .i64 y.1, .int .i64 y.2] 24)
    have h1' := (b1.block _ (lt_of_block h1)).trans h1
    have HK := Lib.hid (hK X.heap.size (fun k => C k ∨ k = X.heap.size) _ ⟨Steps.of_below b1 _, fun k hk => by rcases hk with hk | rfl; exact .inl hk; exact .inr ⟨Nat.le_refl _, by simp⟩⟩
      ⟨v, h1', .inl h2, own_later h3 b1, fun k hk => ⟨.inl (h4 k hk).1, (h4 k hk).2⟩, h5.trans (b1.mono h5.size)⟩ ⟨sp_new X y, hz, .inr rfl, v, h1', fun e => by have := (own_in h3 e).1; omega⟩)
    clear hK h1 h1' h2 h3 h4 h5 hp hc b1
    gi_wp2
    exact HK.out
  case body =>
    rintro l' pre x b C X ⟨v, h1, h2, h3, h4, h5⟩ ⟨hyb, hb, hcb, v0, hv0, hvb0⟩ hp hcc hz
    obtain ⟨i0, hi, hz0, hz1, hz2⟩ := info_split info_span
    have hlen : pre.length < 1000000 := by
      have := hp.length_le
      have h6 := HLN.out
      rw [List.length_append, List.length_singleton] at this
      omega
    have cB := (cell_of_row X w.heap.size 0 _ _ (0, 0) h1).trans rfl
    have e0 := hyb.c0; have e1 := hyb.c1
    have hsrc := span_src X x
    have own2 := own_later h3 (bal (w := X) (.cells #[.int .i64 x.1, .int .i64 x.2] 24))
    have d1 := kcell (bal (w := X) (.cells #[.int .i64 x.1, .int .i64 x.2] 24)) cB
    have HN := Lib.hid (fun (w1 : World) (v' : Value) => told_next (w := w) (X := X) (w1 := w1) (pre := pre) (x := x) (v' := v') h1 h2 h4 h5 (Nat.le_refl _) rfl)
    have hvb := fun k hk => (own_in h3 (k := k) hk).2
    have HV := Lib.hid hvb
    have HO := Lib.hid own2
    have HSRC := Lib.hid hsrc
    have H1 := Lib.hid h1
    have H4 := Lib.hid h4
    clear h1 h2 h3 h4 h5 hp hcc hvb own2 hsrc HSEQ HBOX2 HBW2 hv0 hvb0 hyb hcb hb
    simp only [List.setIfInBounds_toArray, List.set_cons_zero, List.set_cons_succ]
    gi_wp2_with (gi_at_builtin; refine wpListIn_append_sz _ rfl (.tmp 15) (.tmp 17) 30 30 rfl w.heap.size 24 i0 (.agg #[.int .i64 0, .int .i64 0]) 2 16 Try.underlying30 hi hz0 hz1 (by decide) hz2 rfl v pre.length (spCells pre) rfl HO.out _ rfl 1 [.int .i64 x.1, .int .i64 x.2] HSRC.out (by unfold maxLen; omega) (by omega) (by simp; omega) ?_)
    intro a' cap' w1 ho hg hw
    obtain ⟨C', hr, hg'⟩ := HN.out w1 _ ho hg (by simpa using hw) HV.out
    have HF := Lib.hid (fun (aa : Act) => show rPost (ToldI w w.heap.size) NoX (pre ++ [x]) C X .normal aa _ from ⟨C', hr, hg'⟩)
    have hB1 : w1.heap[w.heap.size]? = some (.cells #[v] 30 (0, 0)) := (hg.block w.heap.size (by simp; have := lt_of_block H1.out; omega) (fun e => (H4.out _ e.symm).2 rfl)).trans ((bal (w := X) (.cells #[.int .i64 x.1, .int .i64 x.2] 24)).block _ (lt_of_block H1.out) |>.trans H1.out)
    have g0 : w1.cell? ⟨w.heap.size, 0, none⟩ = some v := (cell_of_row w1 w.heap.size 0 _ _ (0, 0) hB1).trans rfl
    have g1 : w1.frozen? ⟨w.heap.size, 0, none⟩ = false := by simp [World.frozen?, hB1]
    clear hB1 ho hg hw HO HSRC HN HV H1 H4 cB d1 e0 e1 hr hg'
    gi_wp2
    exact HF.out _
  case done =>
    rintro D C X hD hCD ⟨v, h1, h2, h3, h4, h5⟩ hK
    have cB := (cell_of_row X w.heap.size 0 _ _ (0, 0) h1).trans rfl
    have nD : ∀ k, v.ownBlock = some k → k ≠ D := by rintro k hk rfl; exact hCD (h4 _ hk).1
    have hf : (X.putObj D (.deferred none)).ownsRow w.heap.size 24 2 v (s.l).length (spCells (s.l)) := own_step h3 (fun k o hk ho => (World.putObj_heap_other (nD k hk)).trans ho)
    have hb' : Below w.heap.size w (X.putObj D (.deferred none)) := h5.trans ((rng.Steps.putObj (fun k => k < w.heap.size) X D _ (by omega)).below (n := w.heap.size) h5.size (fun k hk => hk))
    have HF := Lib.hid (show rn.Told (s.l) w (.returned v) (X.putObj D (.deferred none)) from ⟨v, rfl, hf, hb'⟩)
    clear h1 h2 h3 h4 h5 nD hf hb' HSEQ HBOX2 HBW2
    gi_wp2
    refine ⟨by simp, .inl ⟨_, _, rfl, run_takeDeferred hK, ?_⟩⟩
    exact ⟨v, by simp [results, Try.results24, go_sem], HF.out⟩
  case stop =>
    rintro D c pre C X _ _ h _
    exact h.elim
set_option maxRecDepth 100000 in
set_option maxHeartbeats 4000000 in
theorem bholed_any {w : World} {p : Option Addr} {s : Bs} (h : BdO w p s) : Calls Try.prog 24 #[.pointer p, .bool true] w (rn.Told (gapsL s.l (s.una, highN s)) w) := by
  have hb1 := bal (w := w) (.cells #[.slice none 0 0] 30)
  have hbox := heap_alloc_new w (.cells #[.slice none 0 0] 30)
  have hln := h.ok.len
  have hhl := holes_len s.l s.una
  have hgh := h.ok.holes
  refine (callsIn_wide (n := 6)).1 ?_
  refine callsIn_of_wp_marks Try.func24 rfl trivial ?_ rfl
  simp only [Try.ntmps24, List.size_toArray, List.length_cons, List.length_nil, Nat.reduceAdd, Nat.reduceSub, Array.replicate_succ, Array.replicate_zero, List.push_toArray, List.append_toArray, List.nil_append, List.cons_append]
  obtain ⟨A0, hA0⟩ : ∃ A0 : Nat → Prop, A0 = fun k => k = w.heap.size := ⟨_, rfl⟩
  have HA0 : A0 w.heap.size := by rw [hA0]
  have HF := Lib.hid (fun X (hX : Below (w.alloc (.cells #[.slice none 0 0] 30)).heap.size (w.alloc (.cells #[.slice none 0 0] 30)) X) => show FarR w X A0 from FarR.of (hb1.trans (hX.mono hb1.size)) (fun k hk => by rw [hA0] at hk; have := hX.size; simp at this; omega))
  have HAL := Lib.hid (ball_any hb1 h A0 (HF.out _ (Below.refl _ _)))
  have HHO := Lib.hid (fun X (hX : Below (w.alloc (.cells #[.slice none 0 0] 30)).heap.size (w.alloc (.cells #[.slice none 0 0] 30)) X) => bholes_any (hb1.trans (hX.mono hb1.size)) h A0 (HF.out _ hX))
  rw [← hgh] at HHO
  have HB1 := Lib.hid hb1
  have HX1 := Lib.hid hbox
  have HLN : Hid ((gapsL s.l (s.una, highN s)).length ≤ 10000) := Lib.hid (by first | (rw [← hgh]; omega) | omega)
  have HGH := Lib.hid hgh
  clear hb1 hbox h hln hhl HF hA0
  gi_wp2
  refine ⟨trivial, ?_⟩
  refine (callsIn_wide.2 HAL.out).mono ?_
  rintro e w1 ⟨lb1, rfl, hseq1, h1⟩
  clear hseq1
  have HH1 := Lib.hid (HHO.out _ h1)
  gi_wp2
  refine ⟨trivial, ?_⟩
  refine (callsIn_wide.2 HH1.out).mono ?_
  rintro e w2 ⟨lb, rfl, hseq, h2⟩
  have h12 := h1.trans (h2.mono h1.size)
  have hz2 := h12.size
  simp at hz2
  rw [hgh] at hseq
  have HSEQ := Lib.hid hseq
  have HBW2 := Lib.hid (HB1.out.trans (h12.mono HB1.out.size))
  have HBOX2 := Lib.hid ((h12.block _ (lt_of_block HX1.out)).trans HX1.out)
  clear hseq h1 h2 h12 HB1 HX1 HAL HHO HH1 hgh
  gi_wp2
  refine wpIn_rangeBox (fun (b : Nat) (y : Sp) (t : Array Value) => (t.setIfInBounds 14 (spV y)).setIfInBounds 7 (.pointer (some ⟨b, 0, none⟩))) (gf := 69) (lb := lb) (L := gapsL s.l (s.una, highN s)) (A := A0) (w0 := w2) (encs := spE) rfl eg_holes HSEQ.out (Below.refl _ _) (fun _ => rfl)
    (ToldI w w.heap.size) NoX (fun k => k = w.heap.size) ?hc0 (told_bears _ _ _ (by omega)) (nox_bears _) ?h0 (fun b y C X => SpAt X b y ∧ w2.heap.size ≤ b ∧ C b ∧ (∃ v0, X.heap[w.heap.size]? = some (.cells #[v0] 30 (0, 0)) ∧ v0.ownBlock ≠ some b)) ?hB ?assign ?body ?done ?stop
  case hc0 => rintro k rfl; exact ⟨.inl HA0, by omega⟩
  case h0 => exact ⟨.slice none 0 0, HBOX2.out, rfl, World.ownsRow_nil _ _ _ _, (fun k hk => by cases hk), HBW2.out⟩
  case hB =>
    rintro b y _ C X Y ⟨h1, h2, h3, v0, h4, h5⟩ hz hs
    exact ⟨hs.heap (.inr h3) h1, h2, h3, v0, hs.heap (.inl (by omega)) h4, h5⟩
  case assign =>
    rintro l' pre y C X K ⟨v, h1, h2, h3, h4, h5⟩ hp hc hz hK
    have b1 := bal (w := X) (.cells #[.int .i64 y.1, .int .i64 y.2] 24)
    have h1' := (b1.block _ (lt_of_block h1)).trans h1
    have HK := Lib.hid (hK X.heap.size (fun k => C k ∨ k = X.heap.size) _ ⟨Steps.of_below b1 _, fun k hk => by rcases hk with hk | rfl; exact .inl hk; exact .inr ⟨Nat.le_refl _, by simp⟩⟩
      ⟨v, h1', .inl h2, own_later h3 b1, fun k hk => ⟨.inl (h4 k hk).1, (h4 k hk).2⟩, h5.trans (b1.mono h5.size)⟩ ⟨sp_new X y, hz, .inr rfl, v, h1', fun e => by have := (own_in h3 e).1; omega⟩)
    clear hK h1 h1' h2 h3 h4 h5 hp hc b1
    gi_wp2
    exact HK.out
  case body =>
    rintro l' pre x b C X ⟨v, h1, h2, h3, h4, h5⟩ ⟨hyb, hb, hcb, v0, hv0, hvb0⟩ hp hcc hz
    obtain ⟨i0, hi, hz0, hz1, hz2⟩ := info_split info_span
    have hlen : pre.length < 1000000 := by
      have := hp.length_le
      have h6 := HLN.out
      rw [List.length_append, List.length_singleton] at this
      omega
    have cB := (cell_of_row X w.heap.size 0 _ _ (0, 0) h1).trans rfl
    have e0 := hyb.c0; have e1 := hyb.c1
    have hsrc := span_src X x
    have own2 := own_later h3 (bal (w := X) (.cells #[.int .i64 x.1, .int .i64 x.2] 24))
    have d1 := kcell (bal (w := X) (.cells #[.int .i64 x.1, .int .i64 x.2] 24)) cB
    have HN := Lib.hid (fun (w1 : World) (v' : Value) => told_next (w := w) (X := X) (w1 := w1) (pre := pre) (x := x) (v' := v') h1 h2 h4 h5 (Nat.le_refl _) rfl)
    have hvb := fun k hk => (own_in h3 (k := k) hk).2
    have HV := Lib.hid hvb
    have HO := Lib.hid own2
    have HSRC := Lib.hid hsrc
    have H1 := Lib.hid h1
    have H4 := Lib.hid h4
    clear h1 h2 h3 h4 h5 hp hcc hvb own2 hsrc HSEQ HBOX2 HBW2 hv0 hvb0 hyb hcb hb
    simp only [List.setIfInBounds_toArray, List.set_cons_zero, List.set_cons_succ]
    gi_wp2_with (gi_at_builtin; refine wpListIn_append_sz _ rfl (.tmp 15) (.tmp 17) 30 30 rfl w.heap.size 24 i0 (.agg #[.int .i64 0, .int .i64 0]) 2 16 Try.underlying30 hi hz0 hz1 (by decide) hz2 rfl v pre.length (spCells pre) rfl HO.out _ rfl 1 [.int .i64 x.1, .int .i64 x.2] HSRC.out (by unfold maxLen; omega) (by omega) (by simp; omega) ?_)
    intro a' cap' w1 ho hg hw
    obtain ⟨C', hr, hg'⟩ := HN.out w1 _ ho hg (by simpa using hw) HV.out
    have HF := Lib.hid (fun (aa : Act) => show rPost (ToldI w w.heap.size) NoX (pre ++ [x]) C X .normal aa _ from ⟨C', hr, hg'⟩)
    have hB1 : w1.heap[w.heap.size]? = some (.cells #[v] 30 (0, 0)) := (hg.block w.heap.size (by simp; have := lt_of_block H1.out; omega) (fun e => (H4.out _ e.symm).2 rfl)).trans ((bal (w := X) (.cells #[.int .i64 x.1, .int .i64 x.2] 24)).block _ (lt_of_block H1.out) |>.trans H1.out)
    have g0 : w1.cell? ⟨w.heap.size, 0, none⟩ = some v := (cell_of_row w1 w.heap.size 0 _ _ (0, 0) hB1).trans rfl
    have g1 : w1.frozen? ⟨w.heap.size, 0, none⟩ = false := by simp [World.frozen?, hB1]
    clear hB1 ho hg hw HO HSRC HN HV H1 H4 cB d1 e0 e1 hr hg'
    gi_wp2
    exact HF.out _
  case done =>
    rintro D C X hD hCD ⟨v, h1, h2, h3, h4, h5⟩ hK
    have cB := (cell_of_row X w.heap.size 0 _ _ (0, 0) h1).trans rfl
    have nD : ∀ k, v.ownBlock = some k → k ≠ D := by rintro k hk rfl; exact hCD (h4 _ hk).1
    have hf : (X.putObj D (.deferred none)).ownsRow w.heap.size 24 2 v (gapsL s.l (s.una, highN s)).length (spCells (gapsL s.l (s.una, highN s))) := own_step h3 (fun k o hk ho => (World.putObj_heap_other (nD k hk)).trans ho)
    have hb' : Below w.heap.size w (X.putObj D (.deferred none)) := h5.trans ((rng.Steps.putObj (fun k => k < w.heap.size) X D _ (by omega)).below (n := w.heap.size) h5.size (fun k hk => hk))
    have HF := Lib.hid (show rn.Told (gapsL s.l (s.una, highN s)) w (.returned v) (X.putObj D (.deferred none)) from ⟨v, rfl, hf, hb'⟩)
    clear h1 h2 h3 h4 h5 nD hf hb' HSEQ HBOX2 HBW2
    gi_wp2
    refine ⟨by simp, .inl ⟨_, _, rfl, run_takeDeferred hK, ?_⟩⟩
    exact ⟨v, by simp [results, Try.results24, go_sem], HF.out⟩
  case stop =>
    rintro D c pre C X _ _ h _
    exact h.elim
end Go.Proofs.Ytegbkeichkifnaa.bd
/-!   Package board: Clone, Same.
-/
namespace Go.Proofs.Ytegbkeichkifnaa.bd
open Go.RowKit Go.Shelf aid mem rng sp rn bv
attribute [local go_sem ↓] Go.wp_at_zero Go.wp_at_succ
attribute [local go_sem] Oper.semAt_some
set_option linter.unusedVariables false
set_option linter.unusedSimpArgs false

set_option maxHeartbeats 2000000 in
theorem sclone_any {w : World} {tb : Nat} {l : List Sp} (h : TL w tb l) : Calls Try.prog 48 #[.agg #[.pointer (some ⟨tb, 0, none⟩)]] w fun e w' => ∃ c, e = .returned (.agg #[.pointer (some ⟨c, 0, none⟩)]) ∧ TL w' c l ∧ Below w.heap.size w w' ∧ w.heap.size ≤ c := by
  have b1 := bal (w := w) (.cells #[.pointer (some ⟨tb, 0, none⟩)] 56)
  have x1 := heap_alloc_new w (.cells #[.pointer (some ⟨tb, 0, none⟩)] 56)
  have hz1 : (w.alloc (.cells #[.pointer (some ⟨tb, 0, none⟩)] 56)).heap.size = w.heap.size + 1 := by simp
  have b2 := bal (w := w.alloc (.cells #[.pointer (some ⟨tb, 0, none⟩)] 56)) (.cells #[.pointer none] 56)
  have x2 := heap_alloc_new (w.alloc (.cells #[.pointer (some ⟨tb, 0, none⟩)] 56)) (.cells #[.pointer none] 56)
  rw [hz1] at x2
  have b12 := b1.trans (b2.mono b1.size)
  have x1' := (b2.block _ (lt_of_block x1)).trans x1
  have c0 := cofr x1' 0 _ rfl
  have h12 := h.later b12
  have hrn := h.rn
  have hz2 : ((w.alloc (.cells #[.pointer (some ⟨tb, 0, none⟩)] 56)).alloc (.cells #[.pointer none] 56)).heap.size = w.heap.size + 1 + 1 := by simp
  obtain ⟨t, h1, h2, h3⟩ := h12
  have HC := Lib.hid (bv.clone_any h1)
  rw [hz2] at HC
  have HX := Lib.hid x2
  have HB := Lib.hid b12
  have HZ := Lib.hid hz2
  clear b1 x1 hz1 b2 x2 b12 x1' h1 h hz2
  go_enter Try.func48, Try.ntmps48
  go_wp2_with (go_at_call 68; (with_reducible refine HC.out.mono ?_); rintro e w3 ⟨rfl, hT, hb3⟩; have x3 := (hb3.block (w.heap.size + 1) (by omega)).trans HX.out; have HT := Lib.hid hT; have f0 := fofr x3 0; have g0 := cofr x3 0 _ rfl; have HB3 := Lib.hid hb3; have HX3 := Lib.hid x3; clear hT hb3 x3 c0)
  have hs := (heap_setCell_same w3 (w.heap.size + 1) 0 _ _ (.pointer (some ⟨(w.heap.size + 1 + 1), 0, none⟩)) HX3.out).trans rfl
  have d0 := cofr hs 0 _ rfl
  have hne : w.heap.size + 1 ≠ (w.heap.size + 1 + 1) := by omega
  have hTf : TL (w3.setCell ⟨w.heap.size + 1, 0, none⟩ (.pointer (some ⟨(w.heap.size + 1 + 1), 0, none⟩))) (w.heap.size + 1 + 1) l := by
    obtain ⟨q, k1, k2⟩ := HT.out
    refine ⟨t, ⟨q, (Below.heap_setCell w3 ⟨w.heap.size + 1, 0, none⟩ _ _ hne.symm).trans k1, k2.keepT (fun x cs hx => Below.heap_setCell w3 ⟨w.heap.size + 1, 0, none⟩ _ _ (fun e => ?_))⟩, h2, h3⟩
    simp only at e
    subst e
    rw [HX3.out] at hx
    injection hx with hx
    injection hx with _ hx _
    exact absurd hx (by decide)
  have HF := Lib.hid (And.intro hTf ((HB.out.trans (HB3.out.mono (by omega))).setCell (p := ⟨w.heap.size + 1, 0, none⟩) (by simp) (.pointer (some ⟨(w.heap.size + 1 + 1), 0, none⟩))))
  clear hTf
  exact bodyPost_ret (v := .agg #[.pointer (some ⟨(w.heap.size + 1 + 1), 0, none⟩)]) (by first | (simp [results, Try.results48, go_sem, d0]; done) | (rw [HZ.out] at d0 ⊢; simp [results, Try.results48, go_sem, d0])) rfl ⟨w.heap.size + 1 + 1, rfl, HF.out.1, HF.out.2, by omega⟩
/-- a board of its own is handed back -/
def RetC (s : Bs) (w : World) (e : Ending) (w' : World) : Prop :=
  ∃ x tb, e = .returned (.pointer (some ⟨x, 0, none⟩)) ∧ BdAt w' x tb s ∧ Below w.heap.size w w' ∧ w.heap.size ≤ x ∧ w.heap.size ≤ tb
theorem bclone_none (w : World) : Calls Try.prog 23 #[.pointer none] w fun e w' => e = .returned (.pointer none) ∧ w = w' := by
  go_enter Try.func23, Try.ntmps23
  go_wp2
  go_ret
  exact ⟨rfl, rfl⟩
set_option maxRecDepth 100000 in
set_option maxHeartbeats 4000000 in
theorem bclone_any {w : World} {x tb : Nat} {s : Bs} (h : BdAt w x tb s) : Calls Try.prog 23 #[.pointer (some ⟨x, 0, none⟩)] w (RetC s w) := by
  have hd := h.later (Below.refl w.heap.size w).drew
  obtain ⟨c0, c1, c2⟩ := hd.cells
  have HC := Lib.hid (sclone_any hd.tl)
  have HOK := Lib.hid h.ok
  clear h hd
  go_enter Try.func23, Try.ntmps23
  go_wp2
  have k0 := And.intro c0 (And.intro c1 c2)
  go_region_held3 (fun V => V.cell? ⟨x, 0, none⟩ = some (.int .i64 s.una) ∧ V.cell? ⟨x, 1, none⟩ = some (.int .i64 s.nxt) ∧ V.cell? ⟨x, 2, none⟩ = some (.pointer (some ⟨tb, 0, none⟩))) (with_reducible first | exact k0 | exact k1 | exact k2 | go_keep) (
    (go_at_call 48; (with_reducible refine HC.out.mono ?_); rintro e w3 ⟨c, rfl, hT, hb, hc⟩; have HT := Lib.hid hT; have HB := Lib.hid (undrew hb); have HCC := Lib.hid hc; have k1 := And.intro (kcell hb c0) (And.intro (kcell hb c1) (kcell hb c2)); have b4 := bal (w := w3) (bdC s c); have k2 := And.intro (kcell b4 k1.1) (And.intro (kcell b4 k1.2.1) (kcell b4 k1.2.2)); clear hT hb hc b4))
  all_goals
    have b4 := bal (w := w3) (bdC s c)
    have hF : BdAt (w3.alloc (bdC s c)) w3.heap.size c s := ⟨heap_alloc_new w3 _, HT.out.later b4, HOK.out⟩
    have HF := Lib.hid hF
    have HBB := Lib.hid (HB.out.trans (b4.mono HB.out.size))
    clear k0 k1 k2 b4 hF c0 c1 c2
    go_wp2
    go_ret
    exact ⟨_, _, rfl, HF.out, HBB.out, HB.out.size, HCC.out⟩
end Go.Proofs.Ytegbkeichkifnaa.bd
