/-
  What the reference says of sets: Bytes, Within, Run, Next, Gap.
-/
import Derived.Test.YtgjkbejlfclpoaaRunC
namespace Go.Proofs.Ytgjkbejlfclpoaa.rn
open Go.RowKit Go.Shelf aid mem rng sp
attribute [local go_sem ↓] Go.wp_at_zero Go.wp_at_succ
set_option linter.unusedVariables false
set_option linter.unusedSimpArgs false

theorem take_bytes {l : List Sp} (hl : Rn l) (k : Nat) (hk : k < l.length) : bytesL (l.take (k + 1)) = bytesL (l.take k) + lenI (l.getD k (0, 0)) ∧ 0 ≤ bytesL (l.take k) ∧ bytesL (l.take (k + 1)) ≤ 4611686018427387904 := by
  refine ⟨?_, (hl.take k).bytes.1, (hl.take (k + 1)).bytes.2⟩
  rw [List.take_succ_eq_append_getElem hk, bytes_append, bytes_cons, bytes_nil]
  rw [show l.getD k (0, 0) = l[k] from by simp [List.getD, hk]]
  omega
theorem take_within {l : List Sp} (s : Sp) (hl : Rn l) (k : Nat) (hk : k < l.length) : withinL (l.take (k + 1)) s = withinL (l.take k) s + lenI (meetP (l.getD k (0, 0)) s) ∧ 0 ≤ withinL (l.take k) s ∧ withinL (l.take (k + 1)) s ≤ 4611686018427387904 := by
  refine ⟨?_, (within_le s (hl.take k).ok).1, Int.le_trans (within_le s (hl.take (k + 1)).ok).2 (hl.take (k + 1)).bytes.2⟩
  rw [List.take_succ_eq_append_getElem hk, within_append, within_cons, within_nil]
  rw [show l.getD k (0, 0) = l[k] from by simp [List.getD, hk]]
  omega
set_option maxHeartbeats 1000000 in
theorem rbytes_any {w : World} {a : Option Addr} {n cap : Nat} {l : List Sp} (h : SlS w a n cap l) (hl : Rn l) : Calls Try.prog 12 #[.slice a n cap] w (RetI (bytesL l) w) := by
  have hle := h.le
  have hmost := h.most
  have hlen := h.len
  unfold maxLen at hmost
  have HC := Lib.hid (fun h0 => h.cells h0)
  have HT := Lib.hid (fun k (hk : k < n) => take_bytes hl k (by omega))
  have HE := Lib.hid (show bytesL (l.take n) = bytesL l from by rw [List.take_of_length_le (by omega)])
  have hb := hl.bytes
  clear h hlen
  go_enter Try.func12, Try.ntmps12
  go_wp2_with fail
  go_loopw [3, 4] (fun s3 s4 wr => ∃ k : Nat, k ≤ n ∧ s4 = .int .i64 k ∧ s3 = .int .i64 (bytesL (l.take k)) ∧ Below w.heap.size w wr) (fun _ s4 _ => n - (intOf s4).toNat)
  case atStart => exact ⟨0, Nat.zero_le _, rfl, rfl, Below.refl _ _⟩
  case round =>
    obtain ⟨k, hk, rfl, rfl, hbw⟩ := hrel
    by_cases hlt : k < n
    · obtain ⟨g, off, rfl, hc⟩ := HC.out (by omega)
      obtain ⟨m0, m1⟩ := hc k hlt
      replace m0 := (hbw.cell (World.block_lt_of_cell? w _ m0)).trans m0
      replace m1 := (hbw.cell (World.block_lt_of_cell? w _ m1)).trans m1
      obtain ⟨t1, t2, t3⟩ := HT.out k hlt
      generalize l.getD k (0, 0) = m at *
      have HLN := Lib.hid (fun X => rlen_any m X)
      have hlm := lenI_bd m
      rw [t1] at t3
      have HT1 := Lib.hid t1
      generalize bytesL (l.take k) = s at *
      generalize lenI m = z at *
      clear t1 hc
      go_wp2_with fail
      refine (HLN.out _).mono ?_
      rintro e w2 ⟨rfl, h2⟩
      go_wp2_with fail
      go_roundw
      case rel => exact ⟨k + 1, by omega, by go_num, by rw [HT1.out], hbw.trans (h2.mono hbw.size)⟩
      case measure => simp [intOf]; omega
    · obtain rfl : k = n := by omega
      rw [HE.out]
      go_wp2
      go_ret
      exact ⟨rfl, hbw⟩
set_option maxHeartbeats 1000000 in
theorem rwithin_any {w : World} {a : Option Addr} {n cap : Nat} {l : List Sp} (h : SlS w a n cap l) (hl : Rn l) (s : Sp) : Calls Try.prog 21 #[.slice a n cap, spV s] w (RetI (withinL l s) w) := by
  have hle := h.le
  have hmost := h.most
  have hlen := h.len
  unfold maxLen at hmost
  have HC := Lib.hid (fun h0 => h.cells h0)
  have HT := Lib.hid (fun k (hk : k < n) => take_within s hl k (by omega))
  have HE := Lib.hid (show withinL (l.take n) s = withinL l s from by rw [List.take_of_length_le (by omega)])
  have b1 := bal (w := w) (.cells #[.int .i64 s.1, .int .i64 s.2] 24)
  have s1 := sp_new w s
  have HB1 := Lib.hid (And.intro b1 s1)
  clear h hlen b1 s1
  go_enter Try.func21, Try.ntmps21
  go_wp2_with fail
  go_loopw [5, 6] (fun s5 s6 wr => ∃ k : Nat, k ≤ n ∧ s6 = .int .i64 k ∧ s5 = .int .i64 (withinL (l.take k) s) ∧ Below w.heap.size w wr ∧ SpAt wr w.heap.size s) (fun _ s6 _ => n - (intOf s6).toNat)
  case atStart => exact ⟨0, Nat.zero_le _, rfl, rfl, HB1.out.1, HB1.out.2⟩
  case round =>
    obtain ⟨k, hk, rfl, rfl, hbw, hsp⟩ := hrel
    by_cases hlt : k < n
    · obtain ⟨g, off, rfl, hc⟩ := HC.out (by omega)
      obtain ⟨m0, m1⟩ := hc k hlt
      replace m0 := (hbw.cell (World.block_lt_of_cell? w _ m0)).trans m0
      replace m1 := (hbw.cell (World.block_lt_of_cell? w _ m1)).trans m1
      obtain ⟨t1, t2, t3⟩ := HT.out k hlt
      generalize l.getD k (0, 0) = m at *
      have HMT := Lib.hid (fun X => rmeet_any m s X)
      have HLN := Lib.hid (fun X => rlen_any (meetP m s) X)
      have hlm := lenI_bd (meetP m s)
      rw [t1] at t3
      have HT1 := Lib.hid t1
      have c0 := hsp.c0; have c1 := hsp.c1
      have HSP := Lib.hid hsp
      generalize withinL (l.take k) s = q at *
      generalize meetP m s = mm at *
      generalize lenI mm = z at *
      have hw1 : IntKind.i64.wrap (q + z) = q + z := IntWalk.i64_in _ (by omega)
      clear t1 hc hsp
      go_wp2_with fail
      go_region_held3 (fun w' => w'.cell? ⟨w.heap.size, 0, none⟩ = some (.int .i64 s.1) ∧ w'.cell? ⟨w.heap.size, 1, none⟩ = some (.int .i64 s.2) ∧ w'.cell? ⟨g, off + k * 2, none⟩ = some (.int .i64 m.1) ∧ w'.cell? ⟨g, off + k * 2 + 1, none⟩ = some (.int .i64 m.2))
        (first | go_keep | (with_reducible exact ⟨kcell (undrew h2) c0, kcell (undrew h2) c1, kcell (undrew h2) m0, kcell (undrew h2) m1⟩) | (with_reducible exact ⟨kcell ((undrew h2).trans (h3.mono (undrew h2).size)) c0, kcell ((undrew h2).trans (h3.mono (undrew h2).size)) c1, kcell ((undrew h2).trans (h3.mono (undrew h2).size)) m0, kcell ((undrew h2).trans (h3.mono (undrew h2).size)) m1⟩))
        (first
          | ((go_at_call 44; (with_reducible refine (HMT.out _).mono ?_); rintro e w2 ⟨rfl, h2⟩))
          | ((go_at_call 16; (with_reducible refine (HLN.out _).mono ?_); rintro e w3 ⟨rfl, h3⟩)))
      have h23 := (undrew h2).trans (h3.mono (undrew h2).size)
      have HQ := Lib.hid (And.intro (hbw.trans (h23.mono hbw.size)) (HSP.out.later h23))
      clear h2 h3 h23 c0 c1 m0 m1
      go_wp2
      go_roundw
      case rel => exact ⟨k + 1, by omega, by go_num, by rw [HT1.out], HQ.out.1, HQ.out.2⟩
      case measure => simp [intOf]; omega
    · obtain rfl : k = n := by omega
      rw [HE.out]
      go_wp2
      go_ret
      exact ⟨rfl, hbw⟩
theorem run_step {l : List Sp} {o : Int} {k : Nat} (hk : k < l.length) : runL (l.drop k) o = if hasB (l.getD k (0, 0)) o = true then l.getD k (0, 0) else runL (l.drop (k + 1)) o := by
  rw [drop_getD hk]
  unfold runL
  rw [List.find?_cons]
  cases h : hasB (l.getD k (0, 0)) o <;> simp
theorem run_none (o : Int) : runL [] o = (0, 0) := rfl
theorem next_step {l : List Sp} {o : Int} {k : Nat} (hk : k < l.length) : nextL (l.drop k) o = if 0 < lenI (fromP (l.getD k (0, 0)) o) then fromP (l.getD k (0, 0)) o else nextL (l.drop (k + 1)) o := by
  rw [drop_getD hk]
  unfold nextL
  rw [List.map_cons, List.find?_cons]
  by_cases h : 0 < lenI (fromP (l.getD k (0, 0)) o)
  · rw [decide_eq_true h, if_pos h]; rfl
  · rw [decide_eq_false h, if_neg h]
theorem next_none (o : Int) : nextL [] o = (0, 0) := rfl
set_option maxHeartbeats 1000000 in
theorem rrun_any {w : World} {a : Option Addr} {n cap : Nat} {l : List Sp} (h : SlS w a n cap l) (o : Int) : Calls Try.prog 15 #[.slice a n cap, .int .i64 o] w (RetS (runL l o) w) := by
  have hle := h.le
  have hmost := h.most
  have hlen := h.len
  unfold maxLen at hmost
  have HC := Lib.hid (fun h0 => h.cells h0)
  have HT := Lib.hid (fun k (hk : k < n) => run_step (l := l) (o := o) (k := k) (by omega))
  have HE := Lib.hid (show runL (l.drop n) o = (0, 0) from by rw [List.drop_eq_nil_of_le (by omega)]; rfl)
  have b1 := bal (w := w) (.cells #[.int .i64 0, .int .i64 0] 24)
  have s1 := sp_new w (0, 0)
  have HB1 := Lib.hid (And.intro b1 s1)
  have H0 := Lib.hid (show runL l o = runL (l.drop 0) o from by rw [List.drop_zero])
  generalize runL l o = R at *
  clear h hlen b1 s1
  go_enter Try.func15, Try.ntmps15
  go_wp2_with fail
  go_loopw [5] (fun s5 wr => ∃ k : Nat, k ≤ n ∧ s5 = .int .i64 k ∧ Hid (R = runL (l.drop k) o) ∧ Below w.heap.size w wr ∧ SpAt wr w.heap.size (0, 0)) (fun s5 _ => n - (intOf s5).toNat)
  case atStart => exact ⟨0, Nat.zero_le _, rfl, H0, HB1.out.1, HB1.out.2⟩
  case round =>
    obtain ⟨k, hk, rfl, HR, hbw, hsp⟩ := hrel
    by_cases hlt : k < n
    · obtain ⟨g, off, rfl, hc⟩ := HC.out (by omega)
      obtain ⟨m0, m1⟩ := hc k hlt
      have n0 := m0; have n1 := m1
      replace m0 := (hbw.cell (World.block_lt_of_cell? w _ m0)).trans m0
      replace m1 := (hbw.cell (World.block_lt_of_cell? w _ m1)).trans m1
      have ht := HT.out k hlt
      have HH := Lib.hid (fun X => rhas_any (l.getD k (0, 0)) o X)
      generalize l.getD k (0, 0) = m at *
      have HSP := Lib.hid hsp
      have HN := Lib.hid (And.intro n0 n1)
      clear hc hsp n0 n1
      cases hb : hasB m o
      · rw [hb] at HH
        rw [hb, if_neg (by simp)] at ht
        have HR2 := Lib.hid (HR.out.trans ht)
        clear ht hb
        go_wp2_with fail
        refine (HH.out _).mono ?_
        rintro e w2 ⟨rfl, h2⟩
        have HQ := Lib.hid (And.intro (hbw.trans (h2.mono hbw.size)) (HSP.out.later h2))
        clear m0 m1 h2
        go_wp2
        go_roundw
        case rel => exact ⟨k + 1, by omega, by go_num, HR2, HQ.out.1, HQ.out.2⟩
        case measure => simp [intOf]; omega
      · rw [hb] at HH
        rw [hb, if_pos rfl] at ht
        have HR2 := Lib.hid (HR.out.trans ht)
        clear ht hb
        go_wp2_with fail
        refine (HH.out _).mono ?_
        rintro e w2 ⟨rfl, h2⟩
        have hb2 := hbw.trans (h2.mono hbw.size)
        have s2 := HSP.out.later h2
        clear m0 m1
        have m0 := (hb2.cell (World.block_lt_of_cell? w _ HN.out.1)).trans HN.out.1
        have m1 := (hb2.cell (World.block_lt_of_cell? w _ HN.out.2)).trans HN.out.2
        have c0 := s2.c0; have c1 := s2.c1; have f0 := s2.f0; have f1 := s2.f1
        have s3 := s2.put m.1 m.2
        have d0 := s3.c0; have d1 := s3.c1
        have HB3 := Lib.hid (hb2.trans ((kput w2 w.heap.size (.int .i64 m.1) (.int .i64 m.2)).below (B := w.heap.size) (by simp) hb2.size))
        clear s2 s3 h2 hb2
        go_wp2
        exact bodyPost_ret (v := .agg #[.int .i64 m.1, .int .i64 m.2]) (by simp [results, Try.results15, go_sem, d0, d1]) rfl ⟨by rw [HR2.out], HB3.out⟩
    · obtain rfl : k = n := by omega
      have HR2 := Lib.hid (HR.out.trans HE.out)
      have c0 := hsp.c0; have c1 := hsp.c1; have f0 := hsp.f0; have f1 := hsp.f1
      have s3 := hsp.put 0 0
      have d0 := s3.c0; have d1 := s3.c1
      have HB3 := Lib.hid (hbw.trans ((kput wr w.heap.size (.int .i64 0) (.int .i64 0)).below (B := w.heap.size) (by simp) hbw.size))
      clear hsp s3
      go_wp2
      exact bodyPost_ret (v := .agg #[.int .i64 0, .int .i64 0]) (by simp [results, Try.results15, go_sem, d0, d1]) rfl ⟨by rw [HR2.out], HB3.out⟩
theorem rgap_any {w : World} {a : Option Addr} {n cap : Nat} {l : List Sp} (h : SlS w a n cap l) (o : Int) : Calls Try.prog 23 #[.slice a n cap, .int .i64 o] w (RetI (gapL l o) w) := by
  have HR := Lib.hid (rrun_any h (atI o))
  have HG := Lib.hid (gap_def l o)
  have hc : (o < 0 ∧ atI o = 0) ∨ (¬ o < 0 ∧ ¬ 4611686018427387904 < o ∧ atI o = o) ∨ (4611686018427387904 < o ∧ ¬ o < 0 ∧ atI o = 4611686018427387904) := by unfold atI; omega
  have hle := h.le
  clear h
  generalize gapL l o = G at *
  generalize runL l (atI o) = x at *
  have HLN := Lib.hid (fun X => rlen_any x X)
  rcases hc with ⟨h1, h2⟩ | ⟨h1, h3, h2⟩ | ⟨h1, h3, h2⟩
  all_goals
    rw [h2] at HR HG
    clear h2
    by_cases hx : 0 < lenI x
    all_goals
      first
        | rw [if_pos hx] at HG
        | rw [if_neg hx] at HG
      go_enter Try.func23, Try.ntmps23
      go_wp2_with fail
      refine HR.out.mono ?_
      rintro e w2 ⟨rfl, h2⟩
      have b3 := h2.trans ((bal (w := w2) (.cells #[.int .i64 x.1, .int .i64 x.2] 24)).mono h2.size)
      have x3 := sp_new w2 x
      have c0 := x3.c0; have c1 := x3.c1
      have HX3 := Lib.hid (And.intro b3 x3)
      clear h2 b3 x3
      go_wp2_with fail
      refine (HLN.out _).mono ?_
      rintro e w4 ⟨rfl, h4⟩
      have x4 := HX3.out.2.later h4
      have d0 := x4.c0; have d1 := x4.c1
      have HB := Lib.hid (HX3.out.1.trans (h4.mono HX3.out.1.size))
      clear h4 x4 c0 c1
      go_wp2
      go_ret
      exact ⟨congrArg (fun z => Ending.returned (.int .i64 z)) HG.out.symm, HB.out⟩
end Go.Proofs.Ytgjkbejlfclpoaa.rn
