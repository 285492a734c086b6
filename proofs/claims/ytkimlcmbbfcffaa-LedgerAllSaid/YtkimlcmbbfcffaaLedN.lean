/-
  Layer 19's law LedgerAll.
-/
import Derived.Test.YtkimlcmbbfcffaaLedM
import Derived.Deep.CutBlock
namespace Go.Proofs.Ytkimlcmbbfcffaa.lg
open Go.RowKit Go.Shelf aid mem sp rn
attribute [local go_sem ↓] Go.wp_at_zero Go.wp_at_succ
set_option linter.unusedVariables false
set_option linter.unusedSimpArgs false

def dd (l : List Sp) (i : Nat) : Int := max 0 (min (lenI (l.getD i (0, 0))) 99)
theorem dd_bd (l : List Sp) : ∀ i, 0 ≤ dd l i ∧ dd l i ≤ 99 := fun i => by unfold dd; omega
theorem el_u8 {l : List Int} (h : ∀ n ∈ l, (Lit.int .u8 n).wf = true) (k : Nat) : 0 ≤ l.getD k 0 ∧ l.getD k 0 ≤ 255 := by
  by_cases hk : k < l.length
  · have e : l.getD k 0 = l[k] := by simp [List.getD, hk]
    rw [e]
    exact bounds_u8 (h _ (List.getElem_mem _))
  · have e : l.getD k 0 = 0 := by simp [List.getD, hk]
    rw [e]; omega
theorem swap_perm {α : Type} (L : List α) {i j : Nat} (hi : i < L.length) (hj : j < L.length) : ((L.set i L[j]).set j L[i]).Perm L := by
  have h := Array.swap_perm (xs := L.toArray) (i := i) (j := j) (by simpa using hi) (by simpa using hj)
  have h2 := Array.perm_iff_toList_perm.1 h
  simpa [Array.swap_def] using h2
theorem swapD (L : List Sp) {i j : Nat} (hi : i < L.length) (hj : j < L.length) : ((L.set i (L.getD j (0, 0))).set j (L.getD i (0, 0))).Perm L := by
  have h := swap_perm L hi hj
  rw [show L.getD i (0, 0) = L[i] from by simp [List.getD, hi], show L.getD j (0, 0) = L[j] from by simp [List.getD, hj]]
  exact h
/-- one of them goes once more -/
theorem again_at {w W : World} {b : Nat} {x : Ld} {a : Option Addr} {n cap : Nat} {L : List Sp} (h : SS w b x a n cap L W) {d : Nat → Int} {k : Nat} (hP : P d k = (100 * (k : Int), 100 * (k : Int) + 1 + d k)) (he : againE x (P d k) = 0) {y : Ld} (hy : againX x (P d k) = y) (f t : Int) (hf : f = 100 * (k : Int)) (ht : t = 100 * (k : Int) + 1 + d k) :
    Calls Try.prog 14 #[.pointer (some ⟨b, 0, none⟩), .agg #[.int .i64 f, .int .i64 t]] W fun e w' => e = .returned (.int .i64 0) ∧ SS w b y a n cap L w' := by
  have := again_ss h (P d k)
  rw [he, hy, hP] at this
  subst hf ht
  exact this
set_option maxRecDepth 100000 in
set_option maxHeartbeats 8000000 in
theorem walk_LedgerAll (w : World) (a : Option Addr) (n cap : Nat) (l : List Sp) (hl : SlS w a n cap l) (ta : Option Addr) (tn tcap : Nat) (zs : List Int) (hrow : IsRow .u8 w ta tn tcap zs)
    (cw : Int) (hcw : -9223372036854775808 ≤ cw ∧ cw ≤ 9223372036854775807) (th : Int) (hth : -9223372036854775808 ≤ th ∧ th ≤ 9223372036854775807) :
    Calls Try.prog 5 #[.slice a n cap, .slice ta tn tcap, .int .i64 cw, .int .i64 th] w fun x w' => x = .returned (.bool true) ∧ Below w.heap.size w w' := by
  have hb := Below.refl w.heap.size w
  have hle := hl.le
  have hmost := hl.most
  unfold maxLen at hmost
  have HLL := Lib.hid hl.len
  have HC := Lib.hid (fun (h0 : 0 < n) => hl.cells h0)
  have htn : tn ≤ 9223372036854775807 := by
    rcases hrow.elems with h | ⟨_, _, _, h, _⟩ <;> omega
  have HR := Lib.hid hrow.elems
  clear hl hrow hcw hth
  go_enter Try.func5, Try.ntmps5
  go_upto_block 0 with (first
    | (go_at_call 7; (with_reducible refine (known_b hb).mono ?_); clear hb; rintro e w1 ⟨rfl, hb⟩)
    | (go_at_call 8; (with_reducible refine (new_ls hb).mono ?_); clear hb; rintro e w2 ⟨b, rfl, S0⟩))
  have P0 : SS w b zL none 0 0 [] w2 := ⟨S0.ext (Below.refl _ _) (fun c hc => by simp [blk_zero] at hc), SlR.nil _ _ 2, fun c hc => by simp [blk_zero] at hc⟩
  clear S0
  have HD := Lib.hid (dd_bd l)
  have HDE := Lib.hid (fun i => show dd l i = max 0 (min (lenI (l.getD i (0, 0))) 99) from rfl)
  generalize dd l = d at *
  go_cut [10] (fun u wx => ∃ (m : Nat) (x : Ld) (sa : Option Addr) (sc : Nat), u = .slice sa m sc ∧ m ≤ 256 ∧ Hid (x.l = lst d m ∧ x.op = false ∧ x.sp = false) ∧ SS w b x sa m sc (lst d m) wx)
  case first =>
    go_wp2_with fail
    go_loopw [10, 11] (fun u i wr => ∃ (k : Nat) (x : Ld) (sa : Option Addr) (sc : Nat), i = .int .i64 k ∧ u = .slice sa k sc ∧ k ≤ n ∧ k ≤ 256 ∧ Hid (x.l = lst d k ∧ x.op = false ∧ x.sp = false) ∧ SS w b x sa k sc (lst d k) wr) (fun _ i _ => 256 - (intOf i).toNat)
    case atStart => exact ⟨0, zL, none, 0, rfl, rfl, by omega, by omega, Lib.hid ⟨rfl, rfl, rfl⟩, P0⟩
    case round =>
      clear P0
      obtain ⟨k, x, sa, sc, rfl, rfl, hk, hk2, HX, S⟩ := hrel
      by_cases hlt : k < n ∧ k < 256
      case pos =>
        obtain ⟨h1, h2⟩ := hlt
        obtain ⟨g, off, rfl, hc⟩ := HC.out (by omega)
        have HCC := Lib.hid (fun W (h : Below w.heap.size w W) => And.intro (kcell h (hc k h1).1) (kcell h (hc k h1).2))
        obtain ⟨e1, e2, e3, e4⟩ := again_one HD.out h2 HX.out.1 HX.out.2.1
        rw [HX.out.2.2] at e4
        have HE := Lib.hid (And.intro e2 (And.intro e3 e4))
        have HPD := Lib.hid (show P d k = (100 * (k : Int), 100 * (k : Int) + 1 + d k) from rfl)
        have HDK := Lib.hid (HDE.out k)
        have HSN := Lib.hid (show spCells (lst d k) ++ [.int .i64 (100 * (k : Int)), .int .i64 (100 * (k : Int) + 1 + d k)] = spCells (lst d (k + 1)) from by rw [lst_succ, spCells_snoc]; rfl)
        have HLN := Lib.hid (rlen_any (l.getD k (0, 0)))
        have hz0 := (lenI_bd (l.getD k (0, 0))).1
        have HAG := Lib.hid (fun W (h : SS w b x sa k sc (lst d k) W) => again_at h HPD.out e1 rfl)
        clear hc e1 e2 e3 e4 HX HPD
        generalize againX x (P d k) = y at *
        generalize lenI (l.getD k (0, 0)) = z at *
        generalize l.getD k (0, 0) = m at *
        obtain ⟨c0, c1⟩ := HCC.out _ S.lf.below
        have hcases : (z = 0 ∧ d k = 0) ∨ (0 < z ∧ z < 99 ∧ d k = z) ∨ (z = 99 ∧ d k = 99) ∨ (99 < z ∧ d k = 99) := by have := HDK.out; omega
        have hkk : 100 * (k : Int) ≤ 25600 := by omega
        clear HDK
        obtain ⟨i0, hi, hi0, hi1, hi2⟩ := info_split info_span
        rcases hcases with ⟨rfl, hd⟩ | ⟨hz1, hz2, hd⟩ | ⟨rfl, hd⟩ | ⟨hz1, hd⟩
        all_goals
          have HDV := Lib.hid hd
          clear hd
          go_upto_region 10 with (first
            | (go_at_call 18; go_must (with_reducible refine (HLN.out _).mono ?_); rintro e w3 ⟨rfl, h3⟩; replace S := S.later h3; clear c0 c1 h3; obtain ⟨c0, c1⟩ := HCC.out _ S.lf.below)
            | (go_at_call 14; go_must (with_reducible refine (HAG.out _ S _ _ (by rfl) (by have := HDV.out; omega)).mono ?_); clear S HAG c0 c1; rintro e w4 ⟨rfl, S⟩; obtain ⟨c0, c1⟩ := HCC.out _ S.lf.below))
          have h2b : (k : Int) < 256 := by omega
          go_wp2_with (first
            | (go_at_call 18; go_must (with_reducible refine (HLN.out _).mono ?_); rintro e w5 ⟨rfl, h3⟩; replace S := S.later h3; clear c0 c1 h3; have HWC := Lib.hid (show w.heap.size ≤ w5.heap.size from S.lf.below.size))
            | (at_builtin; go_must (refine wpList_append_slr _ rfl (.tmp 54) (.tmp 69) 26 26 rfl 32 i0 (.agg #[.int .i64 0, .int .i64 0]) 2 16 Try.underlying26 hi hi0 hi1 (by decide) hi2 rfl sa k sc (spCells (lst d k)) rfl (S.row.later (bal _)) _ rfl 1 (by decide) _ (span_src w5 (_, _)) (by unfold maxLen; omega) (by omega) ?_); intro a' cap' w6 hrow hk6 hat; have RF : SS w b y a' (k + 1) cap' (lst d (k + 1)) w6 := (S.later (bal _)).write hk6 (by rw [← HSN.out, HDV.out]; first | exact hrow | simpa using hrow) hat))
          go_roundw
          case rel => exact ⟨k + 1, y, a', cap', by go_num, rfl, by omega, by omega, HE, RF⟩
          case measure => simp [intOf]; omega
      case neg =>
        by_cases h1 : k < n
        · have h2 : ¬ k < 256 := by omega
          go_wp2_with fail
          go_meet
          exact ⟨k, x, sa, sc, rfl, hk2, HX, S⟩
        · go_wp2_with fail
          go_meet
          exact ⟨k, x, sa, sc, rfl, hk2, HX, S⟩
  case rest =>
    clear P0 HC HLL HDE
    obtain ⟨m, x, sa, sc, rfl, hm, HX, S⟩ := hcut
    generalize wc = w3 at *
    go_upto_block 2 with fail
    go_cut [12] (fun u wx => ∃ L, Hid (L.Perm (lst d m)) ∧ SS w b x sa m sc L wx)
    case first =>
      go_wp2_with fail
      go_loopw [12] (fun i wr => ∃ (k : Nat) (L : List Sp), i = .int .i64 k ∧ k ≤ tn ∧ k ≤ m ∧ Hid (L.Perm (lst d m)) ∧ SS w b x sa m sc L wr) (fun i _ => 256 - (intOf i).toNat)
      case atStart => exact ⟨0, _, rfl, by omega, by omega, Lib.hid (List.Perm.refl _), S⟩
      case round =>
        clear S
        obtain ⟨k, L, rfl, hk, hk2, HL, S⟩ := hrel
        by_cases hlt : k < tn ∧ k < m
        case pos =>
          obtain ⟨h1, h2⟩ := hlt
          rcases HR.out with h | ⟨Bt, ot, rfl, _, _, hcell, hwf⟩
          · omega
          have hz := el_u8 hwf k
          have t0 := kcell S.lf.below (hcell k h1)
          clear hcell hwf
          generalize (zs.take tn).getD k 0 = z at *
          obtain ⟨hz0, hz1⟩ := hz
          have hne : ((m : Int) == 0) = false := by simp; omega
          obtain ⟨q, hq, hqm⟩ : ∃ q : Nat, z.tmod (m : Int) = (q : Int) ∧ q < m := by
            refine ⟨(z % (m : Int)).toNat, ?_, ?_⟩
            · rw [Int.tmod_eq_emod_of_nonneg hz0]
              have := Int.emod_nonneg z (b := (m : Int)) (by omega)
              omega
            · have := Int.emod_nonneg z (b := (m : Int)) (by omega)
              have := Int.emod_lt_of_pos z (b := (m : Int)) (by omega)
              omega
          obtain ⟨g, off, rfl, hc⟩ := row_cells S.row (by omega)
          have HQ := Lib.hid hq
          clear hq
          go_upto_region 15 with fail
          rw [show z % (m : Int) = (q : Int) from by rw [← HQ.out, Int.tmod_eq_emod_of_nonneg hz0]]
          have hLl := row_len S.row
          have HPM := Lib.hid ((swapD L (i := k) (j := q) (by omega) (by omega)).trans HL.out)
          obtain ⟨c0, c1⟩ := hc k h2
          obtain ⟨e0, e1⟩ := hc q hqm
          have SD := S.later (Below.refl _ _).drew
          have hfz : ∀ j, wr.frozen? ⟨g, j, none⟩ = false := fun j => by
            obtain ⟨g', o', cur, hx, hg, _⟩ := S.row.rest (by have := S.row.le; omega)
            injection hx with hx
            injection hx with hx1 hx2
            subst hx1
            exact fofr hg j
          generalize hx1 : L.getD k (0, 0) = x1 at *
          generalize hx2 : L.getD q (0, 0) = x2 at *
          have R1 := slr_set SD.row h2 x2
          have R2 := slr_set R1 hqm x1
          have HK := Lib.hid (show Kept (blk (some ⟨g, off, none⟩) sc) wr.drew (((((wr.drew.setCell ⟨g, off + k * 2, none⟩ (.int .i64 x2.1)).setCell ⟨g, off + k * 2 + 1, none⟩ (.int .i64 x2.2))).setCell ⟨g, off + q * 2, none⟩ (.int .i64 x1.1)).setCell ⟨g, off + q * 2 + 1, none⟩ (.int .i64 x1.2)) from by
            rw [blk_some _ _ _ (by have := S.row.le; omega)]
            exact ((((Kept.refl [g] _).setCell (.inl (by simp)) _).setCell (.inl (by simp)) _).setCell (.inl (by simp)) _).setCell (.inl (by simp)) _)
          have HF := Lib.hid (SD.write (L2 := (L.set k x2).set q x1) HK.out R2 (fun c hc => .inl hc))
          obtain ⟨g', o', hx, hc1⟩ := row_cells R1 (by omega)
          injection hx with hx
          injection hx with hxa hxb
          subst hxa hxb
          obtain ⟨d0, d1⟩ := hc1 q hqm
          generalize ((L.set k x2).getD q (0, 0)) = y1 at *
          have f0 : wr.drew.frozen? ⟨g, off + k * 2, none⟩ = false := hfz _
          have f1 : wr.drew.frozen? ⟨g, off + k * 2 + 1, none⟩ = false := hfz _
          have f2 : wr.drew.frozen? ⟨g, off + q * 2, none⟩ = false := hfz _
          have f3 : wr.drew.frozen? ⟨g, off + q * 2 + 1, none⟩ = false := hfz _
          have d0' : (wr.setCell ⟨g, off + k * 2, none⟩ (.int .i64 x2.1)).cell? ⟨g, off + q * 2, none⟩ = some (.int .i64 y1.1) := by
            have h := d0
            rw [set_other (a := ⟨g, off + k * 2 + 1, none⟩) (b := ⟨g, off + q * 2, none⟩) (by intro e; injection e with _ e; omega)] at h
            exact h
          have d1' : ((wr.setCell ⟨g, off + k * 2, none⟩ (.int .i64 x2.1)).setCell ⟨g, off + k * 2 + 1, none⟩ (.int .i64 x2.2)).cell? ⟨g, off + q * 2 + 1, none⟩ = some (.int .i64 y1.2) := d1
          have f0' := hfz (off + k * 2); have f1' := hfz (off + k * 2 + 1); have f2' := hfz (off + q * 2); have f3' := hfz (off + q * 2 + 1)
          have c0' : wr.drew.cell? ⟨g, off + k * 2, none⟩ = some (.int .i64 x1.1) := c0
          have c1' : wr.drew.cell? ⟨g, off + k * 2 + 1, none⟩ = some (.int .i64 x1.2) := c1
          have e0' : wr.drew.cell? ⟨g, off + q * 2, none⟩ = some (.int .i64 x2.1) := e0
          have e1' : wr.drew.cell? ⟨g, off + q * 2 + 1, none⟩ = some (.int .i64 x2.2) := e1
          clear hc hc1 R1 R2 SD hx1 hx2 hfz HL HR S
          go_region
          have HF2 : SS w b x (some ⟨g, off, none⟩) m sc ((L.set k x2).set q x1) ((((wr.setCell ⟨g, off + k * 2, none⟩ (.int .i64 x2.1)).setCell ⟨g, off + k * 2 + 1, none⟩ (.int .i64 x2.2)).setCell ⟨g, off + q * 2, none⟩ (.int .i64 x1.1)).setCell ⟨g, off + q * 2 + 1, none⟩ (.int .i64 x1.2)).drew := HF.out
          clear HF HK d0 d1 d0' d1' c0 c1 c0' c1' e0 e1 e0' e1' f0 f1 f2 f3 f0' f1' f2' f3'
          generalize ((((wr.setCell ⟨g, off + k * 2, none⟩ (.int .i64 x2.1)).setCell ⟨g, off + k * 2 + 1, none⟩ (.int .i64 x2.2)).setCell ⟨g, off + q * 2, none⟩ (.int .i64 x1.1)).setCell ⟨g, off + q * 2 + 1, none⟩ (.int .i64 x1.2)).drew = W2 at *
          go_wp2_with fail
          go_roundw
          case rel => exact ⟨k + 1, _, by go_num, by omega, by omega, HPM, HF2⟩
          case measure => simp [intOf]; omega
        case neg =>
          by_cases h1 : k < tn
          · have h2 : ¬ k < m := by omega
            go_wp2_with fail
            go_meet
            exact ⟨L, HL, S⟩
          · go_wp2_with fail
            go_meet
            exact ⟨L, HL, S⟩
    case rest =>
      clear S
      obtain ⟨L, HL, S⟩ := hcut
      generalize wc = w4 at *
      have hX := HX.out
      obtain ⟨xo, xc, xt, xl, xs⟩ := x
      dsimp only at hX
      obtain ⟨rfl, rfl, rfl⟩ := hX
      have HC1 := Lib.hid (show cutX ⟨false, xc, xt, lst d m, false⟩ cw th = ⟨true, cw, th, lst d m, false⟩ from rfl)
      have HC2 := Lib.hid (show cutX ⟨true, cw, th, lst d m, false⟩ 1 2 = ⟨true, cw, th, lst d m, false⟩ from rfl)
      go_upto_block 4 with (go_at_call 16; (with_reducible refine (cut_ss S _ _).mono ?_); clear S; rintro e w5 ⟨rfl, S⟩; (first | rw [HC1.out] at S | rw [HC2.out] at S); (try simp only [Bool.not_true, Bool.not_false]))
      clear HC1 HC2 HX HR
      have hLm : L.length = m := row_len S.row
      have HLM := Lib.hid hLm
      clear hLm
      have HSTEP := Lib.hid (fun (k : Nat) (R : List Sp) (hk : k < m) (hR : R.Perm (L.drop k)) => show hasB (L.getD k (0, 0)) R = true ∧ (del (L.getD k (0, 0)) R).Perm (L.drop (k + 1)) ∧ R.length ≠ 0 from by
        have hkl : k < L.length := by rw [HLM.out]; exact hk
        have hd : L.drop k = L.getD k (0, 0) :: L.drop (k + 1) := by rw [List.drop_eq_getElem_cons hkl, show L.getD k (0, 0) = L[k] from by simp [List.getD, hkl]]
        have hsm : L.getD k (0, 0) ∈ lst d m := HL.out.mem_iff.1 (by rw [show L.getD k (0, 0) = L[k] from by simp [List.getD, hkl]]; exact List.getElem_mem _)
        have hlen := hR.length_eq
        rw [hd] at hR
        obtain ⟨q1, q2⟩ := dup_perm hR (fun p hp => (lst_apart HD.out hm hsm (HL.out.mem_iff.1 (List.mem_of_mem_drop (i := k) (by rw [hd]; exact hR.mem_iff.1 hp)))).1) (lst_apart HD.out hm hsm hsm).2
        exact ⟨q1, q2, by rw [hlen, List.length_drop]; omega⟩)
      have HEND := Lib.hid (fun (R : List Sp) (hR : R.Perm (L.drop m)) => show R = [] from by
        rw [List.drop_eq_nil_of_le (by rw [HLM.out]; exact Nat.le_refl _)] at hR
        exact List.Perm.eq_nil hR)
      go_wp2_with fail
      go_loopw [14] (fun i wr => ∃ (k : Nat) (R : List Sp), i = .int .i64 k ∧ k ≤ m ∧ Hid (R.Perm (L.drop k)) ∧ SS w b ⟨true, cw, th, R, false⟩ sa m sc L wr) (fun i _ => m - (intOf i).toNat)
      case atStart => exact ⟨0, lst d m, rfl, Nat.zero_le _, Lib.hid (by simpa using HL.out.symm), S⟩
      case round =>
        clear S
        obtain ⟨k, R, rfl, hk, HP, S⟩ := hrel
        by_cases hlt : k < m
        · obtain ⟨q1, q2, q3⟩ := HSTEP.out k R hlt HP.out
          have HB := Lib.hid (show undoB ⟨true, cw, th, R, false⟩ = false from by unfold undoB; simp; intro h; exact absurd (by rw [h]; rfl) q3)
          have HUX := Lib.hid (show undoX ⟨true, cw, th, R, false⟩ = ⟨true, cw, th, R, false⟩ from by unfold undoX; rw [if_neg (by rw [HB.out]; simp)])
          have HDX := Lib.hid (show dupX ⟨true, cw, th, R, false⟩ (L.getD k (0, 0)) = ⟨true, cw, th, del (L.getD k (0, 0)) R, false⟩ from by unfold dupX; rw [if_pos q1])
          have HQ1 := Lib.hid q1
          have HQ2 := Lib.hid q2
          obtain ⟨g, off, rfl, hc⟩ := row_cells S.row (by omega)
          have HCC := Lib.hid (fun (y : Ld) W (h : SS w b y (some ⟨g, off, none⟩) m sc L W) => show W.cell? ⟨g, off + k * 2, none⟩ = some (.int .i64 (L.getD k (0, 0)).1) ∧ W.cell? ⟨g, off + k * 2 + 1, none⟩ = some (.int .i64 (L.getD k (0, 0)).2) from by
            obtain ⟨g', o', hx, hc1⟩ := row_cells h.row (by omega)
            injection hx with hx
            injection hx with hxa hxb
            subst hxa hxb
            exact hc1 k hlt)
          clear q1 q2 q3 hc
          generalize L.getD k (0, 0) = s at *
          obtain ⟨c0, c1⟩ := HCC.out _ _ S
          go_wp2_with (first
            | (go_at_call 17; go_must (with_reducible refine (undo_ss S).mono ?_); clear S c0 c1; rintro e w5 ⟨rfl, S⟩; rw [HUX.out] at S; rw [HB.out, fV_no]; obtain ⟨c0, c1⟩ := HCC.out _ _ S)
            | (go_at_call 15; go_must (with_reducible refine (dup_ss S s).mono ?_); clear S c0 c1; rintro e w5 ⟨rfl, S⟩; rw [HDX.out] at S; dsimp only; rw [HQ1.out]))
          go_roundw
          case rel => exact ⟨k + 1, _, by go_num, by omega, HQ2, S⟩
          case measure => simp [intOf]; omega
        · obtain rfl : k = m := by omega
          obtain rfl := HEND.out R HP.out
          have M1 := Lib.hid (show undoX ⟨true, cw, th, [], false⟩ = ⟨false, cw, th, [], false⟩ from rfl)
          have M1v := Lib.hid (show fV ⟨true, cw, th, [], false⟩ (undoB ⟨true, cw, th, [], false⟩) = .tuple #[.int .i64 cw, .int .i64 th, .bool true] from rfl)
          have M2 := Lib.hid (show undoX ⟨false, cw, th, [], false⟩ = ⟨false, cw, th, [], false⟩ from rfl)
          have M2v := Lib.hid (show fV ⟨false, cw, th, [], false⟩ (undoB ⟨false, cw, th, [], false⟩) = .tuple #[.int .i64 0, .int .i64 0, .bool false] from rfl)
          go_wp2_with (first
            | (go_at_call 17; go_must (with_reducible refine (undo_ss S).mono ?_); clear S; rintro e w5 ⟨rfl, S⟩; (first | (rw [M1.out] at S; rw [M1v.out]) | (rw [M2.out] at S; rw [M2v.out])))
            | (go_at_call 12; go_must (with_reducible refine (pending_ss S).mono ?_); clear S; rintro e w5 ⟨rfl, S⟩; dsimp only [List.length])
            | (go_at_call 7; go_must (with_reducible refine (known_ss S).mono ?_); clear S; rintro e w5 ⟨rfl, S⟩))
          go_ret
          exact ⟨rfl, S.lf.below⟩
end Go.Proofs.Ytkimlcmbbfcffaa.lg
