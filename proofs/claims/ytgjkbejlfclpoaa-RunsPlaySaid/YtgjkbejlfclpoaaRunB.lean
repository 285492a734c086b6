/-
  Package runs: Remove.
-/
import Derived.Test.YtgjkbejlfclpoaaRunA
namespace Go.Proofs.Ytgjkbejlfclpoaa.rn
open Go.RowKit Go.Shelf aid mem rng sp
attribute [local go_sem ↓] Go.wp_at_zero Go.wp_at_succ
set_option linter.unusedVariables false
set_option linter.unusedSimpArgs false

theorem row2_new (w : World) (x y : Sp) : Row2 (w.alloc (.cells #[.int .i64 x.1, .int .i64 x.2, .int .i64 y.1, .int .i64 y.2] 24)) w.heap.size x y := heap_alloc_new w _
set_option maxHeartbeats 8000000 in
theorem remove_any {w : World} {B : Nat} {a : Option Addr} {n cap : Nat} {l : List Sp} (h : RnAt w B a n cap l) (hl : Rn l) (hn : n ≤ 4096) (s : Sp) :
    Calls Try.prog 30 #[.pointer (some ⟨B, 0, none⟩), spV s] w (ChgPost B a cap (remN l s) w) := by
  have hlen := row_len h.row
  have hB := lt_of_block h.hdr
  have hbl := fun b hb => (h.row.lt b hb).1
  have b1 := bal (w := w) (.cells #[.int .i64 s.1, .int .i64 s.2] 24)
  have s1 := sp_new w s
  have S1 : AS w B w.heap.size a n cap l s (w.alloc (.cells #[.int .i64 s.1, .int .i64 s.2] 24)) := ⟨h.later b1, s1, b1, s1.lt⟩
  have HH := Lib.hid h
  have HCK := Lib.hid (fun X => check_any X B s)
  obtain ⟨W1, hW1⟩ : ∃ W1, W1 = w.alloc (.cells #[.int .i64 s.1, .int .i64 s.2] 24) := ⟨_, rfl⟩
  have HW1 := Lib.hid hW1
  rw [← hW1] at S1
  clear hW1 b1 s1 h
  have c0 : (w.alloc (.cells #[.int .i64 s.1, .int .i64 s.2] 24)).cell? ⟨w.heap.size, 0, none⟩ = some (.int .i64 s.1) := (sp_new w s).c0
  have c1 : (w.alloc (.cells #[.int .i64 s.1, .int .i64 s.2] 24)).cell? ⟨w.heap.size, 1, none⟩ = some (.int .i64 s.2) := (sp_new w s).c1
  have HAN := Lib.hid (show remN l s = if mayB s.1 s.2 = true then (if withinL l s = 0 then (0, 0, l) else if 4096 < (refWo l s).length then (0, 4, l) else (withinL l s, 0, refWo l s)) else (0, 3, l) from rfl)
  generalize remN l s = R at *
  go_enter Try.func30, Try.ntmps30
  go_wp2_with fail
  rw [← HW1.out]
  clear c0 c1 HW1
  generalize hbs : w.heap.size = bs at *
  have HBSZ := Lib.hid hbs
  clear hbs
  cases hm : mayB s.1 s.2
  · rw [hm] at HCK HAN
    have HAN' := Lib.hid (show R = (0, 3, l) from by rw [HAN.out, if_neg (by simp)])
    refine (HCK.out _).mono ?_
    rintro e w2 ⟨rfl, h2⟩
    have S2 := S1.later h2
    have HF := Lib.hid (show ChgPost B a cap R w (.returned (.tuple #[.int .i64 0, .int .i64 3])) w2 from by rw [HAN'.out]; exact ⟨rfl, set_same HH.out S2.below⟩)
    clear S2 S1 HAN HAN' h2 HCK hm
    go_wp2_with fail
    go_ret2
    exact HF.out
  rw [hm, if_pos rfl] at HAN
  rw [hm] at HCK
  have hok : Ok s := mayB_iff.1 hm
  refine (HCK.out _).mono ?_
  rintro e w2 ⟨rfl, h2⟩
  have S2 := S1.later h2
  have HWN := Lib.hid (fun X (S : AS w B bs a n cap l s X) => within_any S.at_.rv hl (by omega) s)
  have HROK := Lib.hid (fun (hc : ¬ withinL l s = 0) => rok_of hok (fun h0 => hc (by
    rw [← (parts_spec s hl).2.2.1, parts_none hl.ok h0]; rfl)))
  have HADD := Lib.hid (fun (hk : ROk s) (hc : ¬ withinL l s = 0) => rem_at (0, 0) hl hk (bhd_hi2 hl hk hc) (hi2_spec s hl).1 (bhd_spec hl s.1).2.1 (bhd_spec hl s.1).2.2 (hi2_spec s hl).2.1 (hi2_spec s hl).2.2)
  have HFT := Lib.hid (fun (hk : ROk s) (hc : ¬ withinL l s = 0) => And.intro (bhd_hi2 hl hk hc) (hi2_spec s hl).1)
  have HPL1 := Lib.hid (fun X (S : AS w B bs a n cap l s X) => behind_any S.at_.rv hl (by omega) s.1)
  have HPL2 := Lib.hid (fun X (S : AS w B bs a n cap l s X) => place_any (gf := 56) (cb := #[.pointer (some ⟨bs, 0, none⟩)]) (fun x => decide (s.2 ≤ x.1)) S.at_.rv enters4 (by omega) (fun W2 hW2 x _ => rem1_any (S.sp.later hW2) x) (by rw [← hlen]; exact hl.mono1' s.2))
  rw [show plc (fun x => decide (s.2 ≤ x.1)) l = hi2 l s from rfl] at HPL2
  clear S1 h2 hm HCK hok
  have d0 := S2.sp.c0; have d1 := S2.sp.c1
  have HS2 := Lib.hid S2
  clear S2
  generalize withinL l s = cm at *
  go_wp2_with fail
  refine (HWN.out _ HS2.out).mono ?_
  rintro e w4 ⟨rfl, h4⟩
  have HS4 := Lib.hid (HS2.out.later h4)
  clear h4 d0 d1 HS2 HWN
  have HBB := Lib.hid (And.intro hB hbl)
  clear hB hbl
  by_cases hc : cm = 0
  · subst hc
    have HAN' := Lib.hid (show R = (0, 0, l) from by rw [HAN.out, if_pos rfl])
    have HF := Lib.hid (show ChgPost B a cap R w (.returned (.tuple #[.int .i64 0, .int .i64 0])) w4 from by rw [HAN'.out]; exact ⟨rfl, set_same HH.out HS4.out.below⟩)
    clear HAN HAN' HADD HROK HFT HPL1 HPL2 HS4
    go_wp2_with fail
    go_ret2
    exact HF.out
  have hk := HROK.out hc
  rw [if_neg hc] at HAN
  obtain ⟨hft, htn⟩ := HFT.out hk hc
  have hADD := HADD.out hk hc
  rw [hlen] at htn
  clear HADD HROK HFT hk hl
  generalize bhd l s.1 = f at *
  generalize hi2 l s = t at *
  rw [← hADD] at HAN
  clear hADD
  obtain ⟨u, rfl⟩ : ∃ u, t = u + 1 := ⟨t - 1, by omega⟩
  have HAD := Lib.hid (show remAt l s f (u + 1) (0, 0) = l.take f ++ (ne (belowP (l.getD f (0, 0)) s.1) ++ ne (fromP (l.getD u (0, 0)) s.2)) ++ l.drop (u + 1) from by unfold remAt; simp)
  generalize remAt l s f (u + 1) (0, 0) = L' at *
  have hfn : f < n := by omega
  have hun : u < n := by omega
  have hft2 : f ≤ u + 1 := by omega
  have hle := HH.out.row.le
  have hmost := HH.out.row.most
  unfold maxLen at hmost
  obtain ⟨g, off, ha, _⟩ := row_cells HH.out.row (by omega)
  subst ha
  have HCELL := Lib.hid (fun C (S : AS w B bs (some ⟨g, off, none⟩) n cap l s C) => show C.cell? ⟨B, 0, none⟩ = some (.slice (some ⟨g, off, none⟩) n cap) ∧ C.cell? ⟨bs, 0, none⟩ = some (.int .i64 s.1) ∧ C.cell? ⟨bs, 1, none⟩ = some (.int .i64 s.2) ∧ C.cell? ⟨g, off + f * 2, none⟩ = some (.int .i64 (l.getD f (0, 0)).1) ∧ C.cell? ⟨g, off + f * 2 + 1, none⟩ = some (.int .i64 (l.getD f (0, 0)).2) ∧ C.cell? ⟨g, off + u * 2, none⟩ = some (.int .i64 (l.getD u (0, 0)).1) ∧ C.cell? ⟨g, off + u * 2 + 1, none⟩ = some (.int .i64 (l.getD u (0, 0)).2) from by
    obtain ⟨g', off', ha', hcc⟩ := row_cells S.at_.row (by omega)
    injection ha' with ha'
    injection ha' with e1 e2
    subst e1 e2
    exact ⟨S.cells.1, S.cells.2.1, S.cells.2.2, (hcc f hfn).1, (hcc f hfn).2, (hcc u hun).1, (hcc u hun).2⟩)
  have HLEN := Lib.hid hlen
  clear hlen
  generalize l.getD f (0, 0) = xf at *
  generalize l.getD u (0, 0) = xu at *
  have HLO := Lib.hid (fun X => below_any xf s.1 X)
  have HUP := Lib.hid (fun X => from_any xu s.2 X)
  generalize belowP xf s.1 = lo at *
  generalize fromP xu s.2 = up at *
  have e0 := HS4.out.sp.c0
  have e1 := HS4.out.sp.c1
  go_wp2_with fail
  refine (HPL1.out _ HS4.out).mono ?_
  rintro e w5 ⟨rfl, h5⟩
  have HS5 := Lib.hid (HS4.out.later h5)
  clear h5 e0 e1
  go_wp2_with fail
  refine (HPL2.out _ HS5.out).mono ?_
  rintro e w6 ⟨rfl, h6⟩
  have S6 := HS5.out.later h6
  have S0 := S6.later ((Below.refl w6.heap.size w6).drew)
  have HC0 := Lib.hid (HCELL.out _ S0)
  clear h6 HS4 HS5 HPL1 HPL2 S6 hc
  go_wp2_with fail
  have hwu : IntKind.i64.wrap (u : Int) = (u : Int) := IntWalk.i64_in _ (by omega)
  refine wp_region_noPanic ?_
  refine wp_region_held_drew (S := fun w' => w'.cell? ⟨B, 0, none⟩ = some (.slice (some ⟨g, off, none⟩) n cap) ∧ w'.cell? ⟨bs, 0, none⟩ = some (.int .i64 s.1) ∧ w'.cell? ⟨bs, 1, none⟩ = some (.int .i64 s.2) ∧ w'.cell? ⟨g, off + f * 2, none⟩ = some (.int .i64 xf.1) ∧ w'.cell? ⟨g, off + f * 2 + 1, none⟩ = some (.int .i64 xf.2) ∧ w'.cell? ⟨g, off + u * 2, none⟩ = some (.int .i64 xu.1) ∧ w'.cell? ⟨g, off + u * 2 + 1, none⟩ = some (.int .i64 xu.2)) (by kernel_rfl) ?_ (fun hHeld => ?_)
  · exact HC0.out
  generalize w6.drew = C0 at *
  clear HC0
  refine wpAnyH_take (i := 0) (oi := _) (v := ?_) rfl (by kernel_rfl) (by kernel_rfl) (by kernel_rfl) (fun _ _ _ h => h) (Or.inl ⟨by rfl, ?_⟩) (by assumption) ?_
  rotate_left
  · (first | (intro v hSw; (try dsimp only at hSw); go_simp; done) | (intro v hSw; (try dsimp only at hSw); go_simp; with_reducible rfl))
  (try simp only [List.getElem_toArray, List.getElem_cons_succ, List.getElem_cons_zero, Act.put, List.setIfInBounds_toArray, List.set_cons_zero, List.set_cons_succ])
  refine wpAnyH_take (i := 1) (oi := _) (v := ?_) rfl (by kernel_rfl) (by kernel_rfl) (by kernel_rfl) (fun _ _ _ h => h) (Or.inl ⟨by rfl, ?_⟩) (by assumption) ?_
  rotate_left
  · (first | (intro v hSw; (try dsimp only at hSw); go_simp; done) | (intro v hSw; (try dsimp only at hSw); go_simp; with_reducible rfl))
  (try simp only [List.getElem_toArray, List.getElem_cons_succ, List.getElem_cons_zero, Act.put, List.setIfInBounds_toArray, List.set_cons_zero, List.set_cons_succ])
  refine wpAnyH_take (i := 2) (oi := _) (v := ?_) rfl (by kernel_rfl) (by kernel_rfl) (by kernel_rfl) (fun _ _ _ h => h) (Or.inl ⟨by rfl, ?_⟩) (by assumption) ?_
  rotate_left
  · (first | (intro v hSw; (try dsimp only at hSw); go_simp; done) | (intro v hSw; (try dsimp only at hSw); go_simp; with_reducible rfl))
  (try simp only [List.getElem_toArray, List.getElem_cons_succ, List.getElem_cons_zero, Act.put, List.setIfInBounds_toArray, List.set_cons_zero, List.set_cons_succ])
  refine wpAnyH_take (i := 3) (oi := _) (v := ?_) rfl (by kernel_rfl) (by kernel_rfl) (by kernel_rfl) (fun _ _ _ h => h) (Or.inl ⟨by rfl, ?_⟩) (by assumption) ?_
  rotate_left
  · (first | (intro v hSw; (try dsimp only at hSw); go_simp; done) | (intro v hSw; (try dsimp only at hSw); go_simp; with_reducible rfl))
  (try simp only [List.getElem_toArray, List.getElem_cons_succ, List.getElem_cons_zero, Act.put, List.setIfInBounds_toArray, List.set_cons_zero, List.set_cons_succ])
  refine wpAnyH_take (i := 4) (oi := _) (v := ?_) rfl (by kernel_rfl) (by kernel_rfl) (by kernel_rfl) (fun _ _ _ h => h) (Or.inl ⟨by rfl, ?_⟩) (by assumption) ?_
  rotate_left
  · (first | (intro v hSw; (try dsimp only at hSw); go_simp; done) | (intro v hSw; (try dsimp only at hSw); go_simp; with_reducible rfl))
  (try simp only [List.getElem_toArray, List.getElem_cons_succ, List.getElem_cons_zero, Act.put, List.setIfInBounds_toArray, List.set_cons_zero, List.set_cons_succ])
  refine wpAnyH_take (i := 5) (oi := _) (v := ?_) rfl (by kernel_rfl) (by kernel_rfl) (by kernel_rfl) (fun _ _ _ h => h) (Or.inl ⟨by rfl, ?_⟩) (by assumption) ?_
  rotate_left
  · (first | (intro v hSw; (try dsimp only at hSw); go_simp; done) | (intro v hSw; (try dsimp only at hSw); go_simp; with_reducible rfl))
  (try simp only [List.getElem_toArray, List.getElem_cons_succ, List.getElem_cons_zero, Act.put, List.setIfInBounds_toArray, List.set_cons_zero, List.set_cons_succ])
  refine wpAnyH_take (i := 6) (oi := _) (v := ?_) rfl (by kernel_rfl) (by kernel_rfl) (by kernel_rfl) (fun _ _ _ h => h) (Or.inl ⟨by rfl, ?_⟩) (by assumption) ?_
  rotate_left
  · (first | (intro v hSw; (try dsimp only at hSw); go_simp; done) | (intro v hSw; (try dsimp only at hSw); go_simp; with_reducible rfl))
  (try simp only [List.getElem_toArray, List.getElem_cons_succ, List.getElem_cons_zero, Act.put, List.setIfInBounds_toArray, List.set_cons_zero, List.set_cons_succ])
  refine wpAnyH_take (i := 7) (oi := _) (v := ?_) rfl (by kernel_rfl) (by kernel_rfl) (by kernel_rfl) (fun _ _ _ h => h) (Or.inl ⟨by rfl, ?_⟩) (by assumption) ?_
  rotate_left
  · (first | (intro v hSw; (try dsimp only at hSw); go_simp; done) | (intro v hSw; (try dsimp only at hSw); go_simp; with_reducible rfl))
  (try simp only [List.getElem_toArray, List.getElem_cons_succ, List.getElem_cons_zero, Act.put, List.setIfInBounds_toArray, List.set_cons_zero, List.set_cons_succ])
  refine wpAnyH_take (i := 8) (oi := _) (v := ?_) rfl (by kernel_rfl) (by kernel_rfl) (by kernel_rfl) (fun _ _ _ h => h) (Or.inl ⟨by rfl, ?_⟩) (by assumption) ?_
  rotate_left
  · (first | (intro v hSw; (try dsimp only at hSw); go_simp; done) | (intro v hSw; (try dsimp only at hSw); go_simp; with_reducible rfl))
  (try simp only [List.getElem_toArray, List.getElem_cons_succ, List.getElem_cons_zero, Act.put, List.setIfInBounds_toArray, List.set_cons_zero, List.set_cons_succ])
  refine wpAnyH_take (i := 10) (oi := _) (v := ?_) rfl (by kernel_rfl) (by kernel_rfl) (by kernel_rfl) (fun _ _ _ h => h) (Or.inl ⟨by rfl, ?_⟩) (by assumption) ?_
  rotate_left
  · (first | (intro v hSw; (try dsimp only at hSw); go_simp; done) | (intro v hSw; (try dsimp only at hSw); go_simp; with_reducible rfl))
  (try simp only [List.getElem_toArray, List.getElem_cons_succ, List.getElem_cons_zero, Act.put, List.setIfInBounds_toArray, List.set_cons_zero, List.set_cons_succ])
  refine wpAnyH_take (i := 11) (oi := _) (v := ?_) rfl (by kernel_rfl) (by kernel_rfl) (by kernel_rfl) (fun _ _ _ h => h) (Or.inl ⟨by rfl, ?_⟩) (by assumption) ?_
  rotate_left
  · (first | (intro v hSw; (try dsimp only at hSw); go_simp; done) | (intro v hSw; (try dsimp only at hSw); go_simp; with_reducible rfl))
  (try simp only [List.getElem_toArray, List.getElem_cons_succ, List.getElem_cons_zero, Act.put, List.setIfInBounds_toArray, List.set_cons_zero, List.set_cons_succ])
  refine wpAnyH_take (i := 12) (oi := _) (v := ?_) rfl (by kernel_rfl) (by kernel_rfl) (by kernel_rfl) (fun _ _ _ h => h) (Or.inl ⟨by rfl, ?_⟩) (by assumption) ?_
  rotate_left
  · (first | (intro v hSw; (try dsimp only at hSw); go_simp; done) | (intro v hSw; (try dsimp only at hSw); go_simp; with_reducible rfl))
  (try simp only [List.getElem_toArray, List.getElem_cons_succ, List.getElem_cons_zero, Act.put, List.setIfInBounds_toArray, List.set_cons_zero, List.set_cons_succ])
  refine wpAnyH_take (i := 13) (oi := _) (v := ?_) rfl (by kernel_rfl) (by kernel_rfl) (by kernel_rfl) (fun _ _ _ h => h) (Or.inl ⟨by rfl, ?_⟩) (by assumption) ?_
  rotate_left
  · (first | (intro v hSw; (try dsimp only at hSw); go_simp; done) | (intro v hSw; (try dsimp only at hSw); go_simp; with_reducible rfl))
  (try simp only [List.getElem_toArray, List.getElem_cons_succ, List.getElem_cons_zero, Act.put, List.setIfInBounds_toArray, List.set_cons_zero, List.set_cons_succ])
  refine wpAnyH_take (i := 14) (oi := _) (v := ?_) rfl (by kernel_rfl) (by kernel_rfl) (by kernel_rfl) (fun _ _ _ h => h) (Or.inl ⟨by rfl, ?_⟩) (by assumption) ?_
  rotate_left
  · (first | (intro v hSw; (try dsimp only at hSw); go_simp; done) | (intro v hSw; (try dsimp only at hSw); go_simp; with_reducible rfl))
  (try simp only [List.getElem_toArray, List.getElem_cons_succ, List.getElem_cons_zero, Act.put, List.setIfInBounds_toArray, List.set_cons_zero, List.set_cons_succ])
  refine wpAnyH_take (i := 15) (oi := _) (v := ?_) rfl (by kernel_rfl) (by kernel_rfl) (by kernel_rfl) (fun _ _ _ h => h) (Or.inl ⟨by rfl, ?_⟩) (by assumption) ?_
  rotate_left
  · (first | (intro v hSw; (try dsimp only at hSw); go_simp; done) | (intro v hSw; (try dsimp only at hSw); go_simp; with_reducible rfl))
  (try simp only [List.getElem_toArray, List.getElem_cons_succ, List.getElem_cons_zero, Act.put, List.setIfInBounds_toArray, List.set_cons_zero, List.set_cons_succ])
  refine wpAnyH_take (i := 16) (oi := _) (v := ?_) rfl (by kernel_rfl) (by kernel_rfl) (by kernel_rfl) (fun _ _ _ h => h) (Or.inl ⟨by rfl, ?_⟩) (by assumption) ?_
  rotate_left
  · (first | (intro v hSw; (try dsimp only at hSw); go_simp; done) | (intro v hSw; (try dsimp only at hSw); go_simp; with_reducible rfl))
  (try simp only [List.getElem_toArray, List.getElem_cons_succ, List.getElem_cons_zero, Act.put, List.setIfInBounds_toArray, List.set_cons_zero, List.set_cons_succ])
  refine wpAnyH_take (i := 17) (oi := _) (v := ?_) rfl (by kernel_rfl) (by kernel_rfl) (by kernel_rfl) (fun _ _ _ h => h) (Or.inl ⟨by rfl, ?_⟩) (by assumption) ?_
  rotate_left
  · (first | (intro v hSw; (try dsimp only at hSw); go_simp; done) | (intro v hSw; (try dsimp only at hSw); go_simp; with_reducible rfl))
  (try simp only [List.getElem_toArray, List.getElem_cons_succ, List.getElem_cons_zero, Act.put, List.setIfInBounds_toArray, List.set_cons_zero, List.set_cons_succ])
  refine wpAnyH_take (i := 18) (oi := _) (v := ?_) rfl (by kernel_rfl) (by kernel_rfl) (by kernel_rfl) (fun _ _ _ h => h) (Or.inl ⟨by rfl, ?_⟩) (by assumption) ?_
  rotate_left
  · (first | (intro v hSw; (try dsimp only at hSw); go_simp; done) | (intro v hSw; (try dsimp only at hSw); go_simp; with_reducible rfl))
  (try simp only [List.getElem_toArray, List.getElem_cons_succ, List.getElem_cons_zero, Act.put, List.setIfInBounds_toArray, List.set_cons_zero, List.set_cons_succ])
  refine wpAnyH_take (i := 19) (oi := _) (v := ?_) rfl (by kernel_rfl) (by kernel_rfl) (by kernel_rfl) (fun _ _ _ h => h) (Or.inl ⟨by rfl, ?_⟩) (by assumption) ?_
  rotate_left
  · (first | (intro v hSw; (try dsimp only at hSw); go_simp; done) | (intro v hSw; (try dsimp only at hSw); go_simp; with_reducible rfl))
  (try simp only [List.getElem_toArray, List.getElem_cons_succ, List.getElem_cons_zero, Act.put, List.setIfInBounds_toArray, List.set_cons_zero, List.set_cons_succ])
  refine wpAnyH_ready (rs := [9, 21, 22]) (by kernel_rfl) (by simp) ?_
  refine AllReadyH.cons (o := _) rfl (fun K hK => ?_) ?_
  · go_simp
    (with_reducible refine (HLO.out C0).mono ?_)
    rintro e C1 ⟨rfl, bb⟩
    have S1 := S0.later bb
    refine hK.out _ _ ?_ (fun hHeld => ?_)
    · ((try dsimp only); exact HCELL.out _ S1)
    clear hK K bb S0
    (try simp only [List.getElem_toArray, List.getElem_cons_succ, List.getElem_cons_zero, Act.put, List.setIfInBounds_toArray, List.set_cons_zero, List.set_cons_succ])
    refine wpAnyH_ready (rs := [20, 21, 22]) (by kernel_rfl) (by simp) ?_
    refine AllReadyH.cons (o := _) rfl (fun K hK => ?_) ?_
    · go_simp
      (with_reducible refine (HUP.out C1).mono ?_)
      rintro e C2 ⟨rfl, bb⟩
      have S2 := S1.later bb
      refine hK.out _ _ ?_ (fun hHeld => ?_)
      · ((try dsimp only); exact HCELL.out _ S2)
      clear hK K bb S1
      (try simp only [List.getElem_toArray, List.getElem_cons_succ, List.getElem_cons_zero, Act.put, List.setIfInBounds_toArray, List.set_cons_zero, List.set_cons_succ])
      refine wpAnyH_ready (rs := [21, 22]) (by kernel_rfl) (by simp) ?_
      refine AllReadyH.cons (o := _) rfl (fun K hK => ?_) ?_
      · have bb := bal (w := C2) (.cells #[.int .i64 0, .int .i64 0] 24)
        have S3 := S2.later bb
        have x21 : SpAt (C2.alloc (.cells #[.int .i64 0, .int .i64 0] 24)) C2.heap.size (0, 0) := sp_new C2 (0, 0)
        have g21 : w.heap.size ≤ C2.heap.size := S2.below.size
        have n21 : bs ≠ C2.heap.size := by have := S2.size; omega
        go_simp
        refine hK.out _ _ ?_ (fun hHeld => ?_)
        · ((try dsimp only); exact HCELL.out _ S3)
        clear hK K bb S2
        (try simp only [List.getElem_toArray, List.getElem_cons_succ, List.getElem_cons_zero, Act.put, List.setIfInBounds_toArray, List.set_cons_zero, List.set_cons_succ])
        generalize C2.alloc (.cells #[.int .i64 0, .int .i64 0] 24) = C3 at *
        generalize hp21 : C2.heap.size = p21 at *
        clear hp21
        refine wpAnyH_ready (rs := [22]) (by kernel_rfl) (by simp) ?_
        refine AllReadyH.cons (o := _) rfl (fun K hK => ?_) AllReadyH.nil
        have bb := bal (w := C3) (.cells #[.int .i64 0, .int .i64 0] 24)
        have S4 := S3.later bb
        have x22 : SpAt (C3.alloc (.cells #[.int .i64 0, .int .i64 0] 24)) C3.heap.size (0, 0) := sp_new C3 (0, 0)
        have g22 : w.heap.size ≤ C3.heap.size := S3.below.size
        have n22 : bs ≠ C3.heap.size := by have := S3.size; omega
        have n2122 : C3.heap.size ≠ p21 := by have := x21.lt; omega
        replace x21 := x21.later bb
        go_simp
        refine hK.out _ _ ?_ (fun hHeld => ?_)
        · ((try dsimp only); exact HCELL.out _ S4)
        clear hK K bb S3
        (try simp only [List.getElem_toArray, List.getElem_cons_succ, List.getElem_cons_zero, Act.put, List.setIfInBounds_toArray, List.set_cons_zero, List.set_cons_succ])
        generalize C3.alloc (.cells #[.int .i64 0, .int .i64 0] 24) = C4 at *
        generalize hp22 : C3.heap.size = p22 at *
        clear hp22
        refine wpAnyH_ready (rs := [23]) (by kernel_rfl) (by simp) ?_
        refine AllReadyH.cons (o := _) rfl (fun K hK => ?_) AllReadyH.nil
        have z0 := x21.c0
        have z1 := x21.c1
        have z2 := x21.f0
        have z3 := x21.f1
        have y21 := x21.put lo.1 lo.2
        have kk : Kept [p21] C4 ((C4.setCell ⟨p21, 0, none⟩ (.int .i64 lo.1)).setCell ⟨p21, 1, none⟩ (.int .i64 lo.2)) := kput C4 p21 _ _
        have y22 := x22.keep kk (by simpa using n2122)
        have S8 := as_put S4 g21 n21 kk (by rw [HBSZ.out]; exact HBB.out.1) (by rw [HBSZ.out]; exact HBB.out.2)
        go_simp
        refine hK.out _ _ ?_ (fun hHeld => ?_)
        · ((try dsimp only); exact HCELL.out _ S8)
        clear hK K z0 z1 z2 z3 kk x21 x22 S4
        (try simp only [List.getElem_toArray, List.getElem_cons_succ, List.getElem_cons_zero, Act.put, List.setIfInBounds_toArray, List.set_cons_zero, List.set_cons_succ])
        generalize (C4.setCell ⟨p21, 0, none⟩ (.int .i64 lo.1)).setCell ⟨p21, 1, none⟩ (.int .i64 lo.2) = C8 at *
        refine wpAnyH_ready (rs := [24]) (by kernel_rfl) (by simp) ?_
        refine AllReadyH.cons (o := _) rfl (fun K hK => ?_) AllReadyH.nil
        have z0 := y22.c0
        have z1 := y22.c1
        have z2 := y22.f0
        have z3 := y22.f1
        have w22 := y22.put up.1 up.2
        have kk : Kept [p22] C8 ((C8.setCell ⟨p22, 0, none⟩ (.int .i64 up.1)).setCell ⟨p22, 1, none⟩ (.int .i64 up.2)) := kput C8 p22 _ _
        have w21 := y21.keep kk (by simpa using n2122.symm)
        have S9 := as_put S8 g22 n22 kk (by rw [HBSZ.out]; exact HBB.out.1) (by rw [HBSZ.out]; exact HBB.out.2)
        go_simp
        refine hK.out _ _ ?_ (fun hHeld => ?_)
        · ((try dsimp only); exact HCELL.out _ S9)
        clear hK K z0 z1 z2 z3 kk y21 y22 S8
        (try simp only [List.getElem_toArray, List.getElem_cons_succ, List.getElem_cons_zero, Act.put, List.setIfInBounds_toArray, List.set_cons_zero, List.set_cons_succ])
        refine wpAnyH_done (by kernel_rfl) ?_ _
        refine NoPanic.normal ?_
        have HS9 := Lib.hid (And.intro S9 (And.intro w21 w22))
        clear S9 w21 w22 hHeld
        generalize (C8.setCell ⟨p22, 0, none⟩ (.int .i64 up.1)).setCell ⟨p22, 1, none⟩ (.int .i64 up.2) = W9 at *
        obtain ⟨S9, x21', x22'⟩ := HS9.out
        have e0 := x21'.c0; have e1 := x21'.c1; have e2 := x22'.c0; have e3 := x22'.c1
        have bR := bal (w := W9) (.cells #[.int .i64 lo.1, .int .i64 lo.2, .int .i64 up.1, .int .i64 up.2] 24)
        have xR := row2_new W9 lo up
        have SR := S9.later bR
        have hgR := S9.below.size
        have HR := Lib.hid (replace_any (B := B) (f := f) (t := u + 1) (sg := W9.heap.size) (k := 2) (ys := ne lo ++ ne up) SR.at_ hft2 htn hn (by have h1 : ∀ x : Sp, (ne x).length ≤ 1 := (fun x => by unfold ne; split <;> simp); have := h1 lo; have := h1 up; simp only [List.length_append]; omega) (by have := HBB.out.1; have := HBSZ.out; omega) (fun hh => by have := HBB.out.2 _ hh; have := HBSZ.out; omega) (by omega) (lt_of_block xR) (del_two lo up xR))
        rw [← HAD.out] at HR
        have HSR := Lib.hid SR
        clear S9 x21' x22' HS9 bR xR SR
        go_wp2_with fail
        refine HR.out.mono ?_
        rintro e w12 hrep
        have hset := set_rep HH.out HSR.out.below hgR hrep
        clear hrep e0 e1 e2 e3
        rcases hset with ⟨h1, rfl, h2⟩ | ⟨h1, rfl, h2⟩
        · have hR : R = (0, 4, l) := by rw [HAN.out, if_pos h1]
          have HF := Lib.hid (show ChgPost B (some ⟨g, off, none⟩) cap R w (.returned (.tuple #[.int .i64 0, .int .i64 4])) w12 from by rw [hR]; exact ⟨rfl, h2⟩)
          clear h1 h2 hR
          go_wp2_with fail
          go_ret2
          exact HF.out
        · have hR : R = (cm, 0, L') := by rw [HAN.out, if_neg (by omega)]
          have HF := Lib.hid (show ChgPost B (some ⟨g, off, none⟩) cap R w (.returned (.tuple #[.int .i64 cm, .int .i64 0])) w12 from by rw [hR]; exact ⟨rfl, h2⟩)
          clear h1 h2 hR
          go_wp2_with fail
          go_ret2
          exact HF.out
      refine AllReadyH.cons (o := _) rfl (fun K hK => ?_) AllReadyH.nil
      have bb := bal (w := C2) (.cells #[.int .i64 0, .int .i64 0] 24)
      have S3 := S2.later bb
      have x22 : SpAt (C2.alloc (.cells #[.int .i64 0, .int .i64 0] 24)) C2.heap.size (0, 0) := sp_new C2 (0, 0)
      have g22 : w.heap.size ≤ C2.heap.size := S2.below.size
      have n22 : bs ≠ C2.heap.size := by have := S2.size; omega
      go_simp
      refine hK.out _ _ ?_ (fun hHeld => ?_)
      · ((try dsimp only); exact HCELL.out _ S3)
      clear hK K bb S2
      (try simp only [List.getElem_toArray, List.getElem_cons_succ, List.getElem_cons_zero, Act.put, List.setIfInBounds_toArray, List.set_cons_zero, List.set_cons_succ])
      generalize C2.alloc (.cells #[.int .i64 0, .int .i64 0] 24) = C3 at *
      generalize hp22 : C2.heap.size = p22 at *
      clear hp22
      refine wpAnyH_ready (rs := [21]) (by kernel_rfl) (by simp) ?_
      refine AllReadyH.cons (o := _) rfl (fun K hK => ?_) AllReadyH.nil
      have bb := bal (w := C3) (.cells #[.int .i64 0, .int .i64 0] 24)
      have S4 := S3.later bb
      have x21 : SpAt (C3.alloc (.cells #[.int .i64 0, .int .i64 0] 24)) C3.heap.size (0, 0) := sp_new C3 (0, 0)
      have g21 : w.heap.size ≤ C3.heap.size := S3.below.size
      have n21 : bs ≠ C3.heap.size := by have := S3.size; omega
      have n2122 : p22 ≠ C3.heap.size := by have := x22.lt; omega
      replace x22 := x22.later bb
      go_simp
      refine hK.out _ _ ?_ (fun hHeld => ?_)
      · ((try dsimp only); exact HCELL.out _ S4)
      clear hK K bb S3
      (try simp only [List.getElem_toArray, List.getElem_cons_succ, List.getElem_cons_zero, Act.put, List.setIfInBounds_toArray, List.set_cons_zero, List.set_cons_succ])
      generalize C3.alloc (.cells #[.int .i64 0, .int .i64 0] 24) = C4 at *
      generalize hp21 : C3.heap.size = p21 at *
      clear hp21
      refine wpAnyH_ready (rs := [23]) (by kernel_rfl) (by simp) ?_
      refine AllReadyH.cons (o := _) rfl (fun K hK => ?_) AllReadyH.nil
      have z0 := x21.c0
      have z1 := x21.c1
      have z2 := x21.f0
      have z3 := x21.f1
      have y21 := x21.put lo.1 lo.2
      have kk : Kept [p21] C4 ((C4.setCell ⟨p21, 0, none⟩ (.int .i64 lo.1)).setCell ⟨p21, 1, none⟩ (.int .i64 lo.2)) := kput C4 p21 _ _
      have y22 := x22.keep kk (by simpa using n2122)
      have S8 := as_put S4 g21 n21 kk (by rw [HBSZ.out]; exact HBB.out.1) (by rw [HBSZ.out]; exact HBB.out.2)
      go_simp
      refine hK.out _ _ ?_ (fun hHeld => ?_)
      · ((try dsimp only); exact HCELL.out _ S8)
      clear hK K z0 z1 z2 z3 kk x21 x22 S4
      (try simp only [List.getElem_toArray, List.getElem_cons_succ, List.getElem_cons_zero, Act.put, List.setIfInBounds_toArray, List.set_cons_zero, List.set_cons_succ])
      generalize (C4.setCell ⟨p21, 0, none⟩ (.int .i64 lo.1)).setCell ⟨p21, 1, none⟩ (.int .i64 lo.2) = C8 at *
      refine wpAnyH_ready (rs := [24]) (by kernel_rfl) (by simp) ?_
      refine AllReadyH.cons (o := _) rfl (fun K hK => ?_) AllReadyH.nil
      have z0 := y22.c0
      have z1 := y22.c1
      have z2 := y22.f0
      have z3 := y22.f1
      have w22 := y22.put up.1 up.2
      have kk : Kept [p22] C8 ((C8.setCell ⟨p22, 0, none⟩ (.int .i64 up.1)).setCell ⟨p22, 1, none⟩ (.int .i64 up.2)) := kput C8 p22 _ _
      have w21 := y21.keep kk (by simpa using n2122.symm)
      have S9 := as_put S8 g22 n22 kk (by rw [HBSZ.out]; exact HBB.out.1) (by rw [HBSZ.out]; exact HBB.out.2)
      go_simp
      refine hK.out _ _ ?_ (fun hHeld => ?_)
      · ((try dsimp only); exact HCELL.out _ S9)
      clear hK K z0 z1 z2 z3 kk y21 y22 S8
      (try simp only [List.getElem_toArray, List.getElem_cons_succ, List.getElem_cons_zero, Act.put, List.setIfInBounds_toArray, List.set_cons_zero, List.set_cons_succ])
      refine wpAnyH_done (by kernel_rfl) ?_ _
      refine NoPanic.normal ?_
      have HS9 := Lib.hid (And.intro S9 (And.intro w21 w22))
      clear S9 w21 w22 hHeld
      generalize (C8.setCell ⟨p22, 0, none⟩ (.int .i64 up.1)).setCell ⟨p22, 1, none⟩ (.int .i64 up.2) = W9 at *
      obtain ⟨S9, x21', x22'⟩ := HS9.out
      have e0 := x21'.c0; have e1 := x21'.c1; have e2 := x22'.c0; have e3 := x22'.c1
      have bR := bal (w := W9) (.cells #[.int .i64 lo.1, .int .i64 lo.2, .int .i64 up.1, .int .i64 up.2] 24)
      have xR := row2_new W9 lo up
      have SR := S9.later bR
      have hgR := S9.below.size
      have HR := Lib.hid (replace_any (B := B) (f := f) (t := u + 1) (sg := W9.heap.size) (k := 2) (ys := ne lo ++ ne up) SR.at_ hft2 htn hn (by have h1 : ∀ x : Sp, (ne x).length ≤ 1 := (fun x => by unfold ne; split <;> simp); have := h1 lo; have := h1 up; simp only [List.length_append]; omega) (by have := HBB.out.1; have := HBSZ.out; omega) (fun hh => by have := HBB.out.2 _ hh; have := HBSZ.out; omega) (by omega) (lt_of_block xR) (del_two lo up xR))
      rw [← HAD.out] at HR
      have HSR := Lib.hid SR
      clear S9 x21' x22' HS9 bR xR SR
      go_wp2_with fail
      refine HR.out.mono ?_
      rintro e w12 hrep
      have hset := set_rep HH.out HSR.out.below hgR hrep
      clear hrep e0 e1 e2 e3
      rcases hset with ⟨h1, rfl, h2⟩ | ⟨h1, rfl, h2⟩
      · have hR : R = (0, 4, l) := by rw [HAN.out, if_pos h1]
        have HF := Lib.hid (show ChgPost B (some ⟨g, off, none⟩) cap R w (.returned (.tuple #[.int .i64 0, .int .i64 4])) w12 from by rw [hR]; exact ⟨rfl, h2⟩)
        clear h1 h2 hR
        go_wp2_with fail
        go_ret2
        exact HF.out
      · have hR : R = (cm, 0, L') := by rw [HAN.out, if_neg (by omega)]
        have HF := Lib.hid (show ChgPost B (some ⟨g, off, none⟩) cap R w (.returned (.tuple #[.int .i64 cm, .int .i64 0])) w12 from by rw [hR]; exact ⟨rfl, h2⟩)
        clear h1 h2 hR
        go_wp2_with fail
        go_ret2
        exact HF.out
    refine AllReadyH.cons (o := _) rfl (fun K hK => ?_) ?_
    · have bb := bal (w := C1) (.cells #[.int .i64 0, .int .i64 0] 24)
      have S2 := S1.later bb
      have x21 : SpAt (C1.alloc (.cells #[.int .i64 0, .int .i64 0] 24)) C1.heap.size (0, 0) := sp_new C1 (0, 0)
      have g21 : w.heap.size ≤ C1.heap.size := S1.below.size
      have n21 : bs ≠ C1.heap.size := by have := S1.size; omega
      go_simp
      refine hK.out _ _ ?_ (fun hHeld => ?_)
      · ((try dsimp only); exact HCELL.out _ S2)
      clear hK K bb S1
      (try simp only [List.getElem_toArray, List.getElem_cons_succ, List.getElem_cons_zero, Act.put, List.setIfInBounds_toArray, List.set_cons_zero, List.set_cons_succ])
      generalize C1.alloc (.cells #[.int .i64 0, .int .i64 0] 24) = C2 at *
      generalize hp21 : C1.heap.size = p21 at *
      clear hp21
      refine wpAnyH_ready (rs := [20, 22]) (by kernel_rfl) (by simp) ?_
      refine AllReadyH.cons (o := _) rfl (fun K hK => ?_) ?_
      · go_simp
        (with_reducible refine (HUP.out C2).mono ?_)
        rintro e C3 ⟨rfl, bb⟩
        have S3 := S2.later bb
        replace x21 := x21.later bb
        refine hK.out _ _ ?_ (fun hHeld => ?_)
        · ((try dsimp only); exact HCELL.out _ S3)
        clear hK K bb S2
        (try simp only [List.getElem_toArray, List.getElem_cons_succ, List.getElem_cons_zero, Act.put, List.setIfInBounds_toArray, List.set_cons_zero, List.set_cons_succ])
        refine wpAnyH_ready (rs := [22]) (by kernel_rfl) (by simp) ?_
        refine AllReadyH.cons (o := _) rfl (fun K hK => ?_) AllReadyH.nil
        have bb := bal (w := C3) (.cells #[.int .i64 0, .int .i64 0] 24)
        have S4 := S3.later bb
        have x22 : SpAt (C3.alloc (.cells #[.int .i64 0, .int .i64 0] 24)) C3.heap.size (0, 0) := sp_new C3 (0, 0)
        have g22 : w.heap.size ≤ C3.heap.size := S3.below.size
        have n22 : bs ≠ C3.heap.size := by have := S3.size; omega
        have n2122 : C3.heap.size ≠ p21 := by have := x21.lt; omega
        replace x21 := x21.later bb
        go_simp
        refine hK.out _ _ ?_ (fun hHeld => ?_)
        · ((try dsimp only); exact HCELL.out _ S4)
        clear hK K bb S3
        (try simp only [List.getElem_toArray, List.getElem_cons_succ, List.getElem_cons_zero, Act.put, List.setIfInBounds_toArray, List.set_cons_zero, List.set_cons_succ])
        generalize C3.alloc (.cells #[.int .i64 0, .int .i64 0] 24) = C4 at *
        generalize hp22 : C3.heap.size = p22 at *
        clear hp22
        refine wpAnyH_ready (rs := [23]) (by kernel_rfl) (by simp) ?_
        refine AllReadyH.cons (o := _) rfl (fun K hK => ?_) AllReadyH.nil
        have z0 := x21.c0
        have z1 := x21.c1
        have z2 := x21.f0
        have z3 := x21.f1
        have y21 := x21.put lo.1 lo.2
        have kk : Kept [p21] C4 ((C4.setCell ⟨p21, 0, none⟩ (.int .i64 lo.1)).setCell ⟨p21, 1, none⟩ (.int .i64 lo.2)) := kput C4 p21 _ _
        have y22 := x22.keep kk (by simpa using n2122)
        have S8 := as_put S4 g21 n21 kk (by rw [HBSZ.out]; exact HBB.out.1) (by rw [HBSZ.out]; exact HBB.out.2)
        go_simp
        refine hK.out _ _ ?_ (fun hHeld => ?_)
        · ((try dsimp only); exact HCELL.out _ S8)
        clear hK K z0 z1 z2 z3 kk x21 x22 S4
        (try simp only [List.getElem_toArray, List.getElem_cons_succ, List.getElem_cons_zero, Act.put, List.setIfInBounds_toArray, List.set_cons_zero, List.set_cons_succ])
        generalize (C4.setCell ⟨p21, 0, none⟩ (.int .i64 lo.1)).setCell ⟨p21, 1, none⟩ (.int .i64 lo.2) = C8 at *
        refine wpAnyH_ready (rs := [24]) (by kernel_rfl) (by simp) ?_
        refine AllReadyH.cons (o := _) rfl (fun K hK => ?_) AllReadyH.nil
        have z0 := y22.c0
        have z1 := y22.c1
        have z2 := y22.f0
        have z3 := y22.f1
        have w22 := y22.put up.1 up.2
        have kk : Kept [p22] C8 ((C8.setCell ⟨p22, 0, none⟩ (.int .i64 up.1)).setCell ⟨p22, 1, none⟩ (.int .i64 up.2)) := kput C8 p22 _ _
        have w21 := y21.keep kk (by simpa using n2122.symm)
        have S9 := as_put S8 g22 n22 kk (by rw [HBSZ.out]; exact HBB.out.1) (by rw [HBSZ.out]; exact HBB.out.2)
        go_simp
        refine hK.out _ _ ?_ (fun hHeld => ?_)
        · ((try dsimp only); exact HCELL.out _ S9)
        clear hK K z0 z1 z2 z3 kk y21 y22 S8
        (try simp only [List.getElem_toArray, List.getElem_cons_succ, List.getElem_cons_zero, Act.put, List.setIfInBounds_toArray, List.set_cons_zero, List.set_cons_succ])
        refine wpAnyH_done (by kernel_rfl) ?_ _
        refine NoPanic.normal ?_
        have HS9 := Lib.hid (And.intro S9 (And.intro w21 w22))
        clear S9 w21 w22 hHeld
        generalize (C8.setCell ⟨p22, 0, none⟩ (.int .i64 up.1)).setCell ⟨p22, 1, none⟩ (.int .i64 up.2) = W9 at *
        obtain ⟨S9, x21', x22'⟩ := HS9.out
        have e0 := x21'.c0; have e1 := x21'.c1; have e2 := x22'.c0; have e3 := x22'.c1
        have bR := bal (w := W9) (.cells #[.int .i64 lo.1, .int .i64 lo.2, .int .i64 up.1, .int .i64 up.2] 24)
        have xR := row2_new W9 lo up
        have SR := S9.later bR
        have hgR := S9.below.size
        have HR := Lib.hid (replace_any (B := B) (f := f) (t := u + 1) (sg := W9.heap.size) (k := 2) (ys := ne lo ++ ne up) SR.at_ hft2 htn hn (by have h1 : ∀ x : Sp, (ne x).length ≤ 1 := (fun x => by unfold ne; split <;> simp); have := h1 lo; have := h1 up; simp only [List.length_append]; omega) (by have := HBB.out.1; have := HBSZ.out; omega) (fun hh => by have := HBB.out.2 _ hh; have := HBSZ.out; omega) (by omega) (lt_of_block xR) (del_two lo up xR))
        rw [← HAD.out] at HR
        have HSR := Lib.hid SR
        clear S9 x21' x22' HS9 bR xR SR
        go_wp2_with fail
        refine HR.out.mono ?_
        rintro e w12 hrep
        have hset := set_rep HH.out HSR.out.below hgR hrep
        clear hrep e0 e1 e2 e3
        rcases hset with ⟨h1, rfl, h2⟩ | ⟨h1, rfl, h2⟩
        · have hR : R = (0, 4, l) := by rw [HAN.out, if_pos h1]
          have HF := Lib.hid (show ChgPost B (some ⟨g, off, none⟩) cap R w (.returned (.tuple #[.int .i64 0, .int .i64 4])) w12 from by rw [hR]; exact ⟨rfl, h2⟩)
          clear h1 h2 hR
          go_wp2_with fail
          go_ret2
          exact HF.out
        · have hR : R = (cm, 0, L') := by rw [HAN.out, if_neg (by omega)]
          have HF := Lib.hid (show ChgPost B (some ⟨g, off, none⟩) cap R w (.returned (.tuple #[.int .i64 cm, .int .i64 0])) w12 from by rw [hR]; exact ⟨rfl, h2⟩)
          clear h1 h2 hR
          go_wp2_with fail
          go_ret2
          exact HF.out
      refine AllReadyH.cons (o := _) rfl (fun K hK => ?_) AllReadyH.nil
      have bb := bal (w := C2) (.cells #[.int .i64 0, .int .i64 0] 24)
      have S3 := S2.later bb
      have x22 : SpAt (C2.alloc (.cells #[.int .i64 0, .int .i64 0] 24)) C2.heap.size (0, 0) := sp_new C2 (0, 0)
      have g22 : w.heap.size ≤ C2.heap.size := S2.below.size
      have n22 : bs ≠ C2.heap.size := by have := S2.size; omega
      have n2122 : C2.heap.size ≠ p21 := by have := x21.lt; omega
      replace x21 := x21.later bb
      go_simp
      refine hK.out _ _ ?_ (fun hHeld => ?_)
      · ((try dsimp only); exact HCELL.out _ S3)
      clear hK K bb S2
      (try simp only [List.getElem_toArray, List.getElem_cons_succ, List.getElem_cons_zero, Act.put, List.setIfInBounds_toArray, List.set_cons_zero, List.set_cons_succ])
      generalize C2.alloc (.cells #[.int .i64 0, .int .i64 0] 24) = C3 at *
      generalize hp22 : C2.heap.size = p22 at *
      clear hp22
      refine wpAnyH_ready (rs := [20]) (by kernel_rfl) (by simp) ?_
      refine AllReadyH.cons (o := _) rfl (fun K hK => ?_) AllReadyH.nil
      go_simp
      (with_reducible refine (HUP.out C3).mono ?_)
      rintro e C4 ⟨rfl, bb⟩
      have S4 := S3.later bb
      replace x21 := x21.later bb
      replace x22 := x22.later bb
      refine hK.out _ _ ?_ (fun hHeld => ?_)
      · ((try dsimp only); exact HCELL.out _ S4)
      clear hK K bb S3
      (try simp only [List.getElem_toArray, List.getElem_cons_succ, List.getElem_cons_zero, Act.put, List.setIfInBounds_toArray, List.set_cons_zero, List.set_cons_succ])
      refine wpAnyH_ready (rs := [23]) (by kernel_rfl) (by simp) ?_
      refine AllReadyH.cons (o := _) rfl (fun K hK => ?_) AllReadyH.nil
      have z0 := x21.c0
      have z1 := x21.c1
      have z2 := x21.f0
      have z3 := x21.f1
      have y21 := x21.put lo.1 lo.2
      have kk : Kept [p21] C4 ((C4.setCell ⟨p21, 0, none⟩ (.int .i64 lo.1)).setCell ⟨p21, 1, none⟩ (.int .i64 lo.2)) := kput C4 p21 _ _
      have y22 := x22.keep kk (by simpa using n2122)
      have S8 := as_put S4 g21 n21 kk (by rw [HBSZ.out]; exact HBB.out.1) (by rw [HBSZ.out]; exact HBB.out.2)
      go_simp
      refine hK.out _ _ ?_ (fun hHeld => ?_)
      · ((try dsimp only); exact HCELL.out _ S8)
      clear hK K z0 z1 z2 z3 kk x21 x22 S4
      (try simp only [List.getElem_toArray, List.getElem_cons_succ, List.getElem_cons_zero, Act.put, List.setIfInBounds_toArray, List.set_cons_zero, List.set_cons_succ])
      generalize (C4.setCell ⟨p21, 0, none⟩ (.int .i64 lo.1)).setCell ⟨p21, 1, none⟩ (.int .i64 lo.2) = C8 at *
      refine wpAnyH_ready (rs := [24]) (by kernel_rfl) (by simp) ?_
      refine AllReadyH.cons (o := _) rfl (fun K hK => ?_) AllReadyH.nil
      have z0 := y22.c0
      have z1 := y22.c1
      have z2 := y22.f0
      have z3 := y22.f1
      have w22 := y22.put up.1 up.2
      have kk : Kept [p22] C8 ((C8.setCell ⟨p22, 0, none⟩ (.int .i64 up.1)).setCell ⟨p22, 1, none⟩ (.int .i64 up.2)) := kput C8 p22 _ _
      have w21 := y21.keep kk (by simpa using n2122.symm)
      have S9 := as_put S8 g22 n22 kk (by rw [HBSZ.out]; exact HBB.out.1) (by rw [HBSZ.out]; exact HBB.out.2)
      go_simp
      refine hK.out _ _ ?_ (fun hHeld => ?_)
      · ((try dsimp only); exact HCELL.out _ S9)
      clear hK K z0 z1 z2 z3 kk y21 y22 S8
      (try simp only [List.getElem_toArray, List.getElem_cons_succ, List.getElem_cons_zero, Act.put, List.setIfInBounds_toArray, List.set_cons_zero, List.set_cons_succ])
      refine wpAnyH_done (by kernel_rfl) ?_ _
      refine NoPanic.normal ?_
      have HS9 := Lib.hid (And.intro S9 (And.intro w21 w22))
      clear S9 w21 w22 hHeld
      generalize (C8.setCell ⟨p22, 0, none⟩ (.int .i64 up.1)).setCell ⟨p22, 1, none⟩ (.int .i64 up.2) = W9 at *
      obtain ⟨S9, x21', x22'⟩ := HS9.out
      have e0 := x21'.c0; have e1 := x21'.c1; have e2 := x22'.c0; have e3 := x22'.c1
      have bR := bal (w := W9) (.cells #[.int .i64 lo.1, .int .i64 lo.2, .int .i64 up.1, .int .i64 up.2] 24)
      have xR := row2_new W9 lo up
      have SR := S9.later bR
      have hgR := S9.below.size
      have HR := Lib.hid (replace_any (B := B) (f := f) (t := u + 1) (sg := W9.heap.size) (k := 2) (ys := ne lo ++ ne up) SR.at_ hft2 htn hn (by have h1 : ∀ x : Sp, (ne x).length ≤ 1 := (fun x => by unfold ne; split <;> simp); have := h1 lo; have := h1 up; simp only [List.length_append]; omega) (by have := HBB.out.1; have := HBSZ.out; omega) (fun hh => by have := HBB.out.2 _ hh; have := HBSZ.out; omega) (by omega) (lt_of_block xR) (del_two lo up xR))
      rw [← HAD.out] at HR
      have HSR := Lib.hid SR
      clear S9 x21' x22' HS9 bR xR SR
      go_wp2_with fail
      refine HR.out.mono ?_
      rintro e w12 hrep
      have hset := set_rep HH.out HSR.out.below hgR hrep
      clear hrep e0 e1 e2 e3
      rcases hset with ⟨h1, rfl, h2⟩ | ⟨h1, rfl, h2⟩
      · have hR : R = (0, 4, l) := by rw [HAN.out, if_pos h1]
        have HF := Lib.hid (show ChgPost B (some ⟨g, off, none⟩) cap R w (.returned (.tuple #[.int .i64 0, .int .i64 4])) w12 from by rw [hR]; exact ⟨rfl, h2⟩)
        clear h1 h2 hR
        go_wp2_with fail
        go_ret2
        exact HF.out
      · have hR : R = (cm, 0, L') := by rw [HAN.out, if_neg (by omega)]
        have HF := Lib.hid (show ChgPost B (some ⟨g, off, none⟩) cap R w (.returned (.tuple #[.int .i64 cm, .int .i64 0])) w12 from by rw [hR]; exact ⟨rfl, h2⟩)
        clear h1 h2 hR
        go_wp2_with fail
        go_ret2
        exact HF.out
    refine AllReadyH.cons (o := _) rfl (fun K hK => ?_) AllReadyH.nil
    have bb := bal (w := C1) (.cells #[.int .i64 0, .int .i64 0] 24)
    have S2 := S1.later bb
    have x22 : SpAt (C1.alloc (.cells #[.int .i64 0, .int .i64 0] 24)) C1.heap.size (0, 0) := sp_new C1 (0, 0)
    have g22 : w.heap.size ≤ C1.heap.size := S1.below.size
    have n22 : bs ≠ C1.heap.size := by have := S1.size; omega
    go_simp
    refine hK.out _ _ ?_ (fun hHeld => ?_)
    · ((try dsimp only); exact HCELL.out _ S2)
    clear hK K bb S1
    (try simp only [List.getElem_toArray, List.getElem_cons_succ, List.getElem_cons_zero, Act.put, List.setIfInBounds_toArray, List.set_cons_zero, List.set_cons_succ])
    generalize C1.alloc (.cells #[.int .i64 0, .int .i64 0] 24) = C2 at *
    generalize hp22 : C1.heap.size = p22 at *
    clear hp22
    refine wpAnyH_ready (rs := [20, 21]) (by kernel_rfl) (by simp) ?_
    refine AllReadyH.cons (o := _) rfl (fun K hK => ?_) ?_
    · go_simp
      (with_reducible refine (HUP.out C2).mono ?_)
      rintro e C3 ⟨rfl, bb⟩
      have S3 := S2.later bb
      replace x22 := x22.later bb
      refine hK.out _ _ ?_ (fun hHeld => ?_)
      · ((try dsimp only); exact HCELL.out _ S3)
      clear hK K bb S2
      (try simp only [List.getElem_toArray, List.getElem_cons_succ, List.getElem_cons_zero, Act.put, List.setIfInBounds_toArray, List.set_cons_zero, List.set_cons_succ])
      refine wpAnyH_ready (rs := [21]) (by kernel_rfl) (by simp) ?_
      refine AllReadyH.cons (o := _) rfl (fun K hK => ?_) AllReadyH.nil
      have bb := bal (w := C3) (.cells #[.int .i64 0, .int .i64 0] 24)
      have S4 := S3.later bb
      have x21 : SpAt (C3.alloc (.cells #[.int .i64 0, .int .i64 0] 24)) C3.heap.size (0, 0) := sp_new C3 (0, 0)
      have g21 : w.heap.size ≤ C3.heap.size := S3.below.size
      have n21 : bs ≠ C3.heap.size := by have := S3.size; omega
      have n2122 : p22 ≠ C3.heap.size := by have := x22.lt; omega
      replace x22 := x22.later bb
      go_simp
      refine hK.out _ _ ?_ (fun hHeld => ?_)
      · ((try dsimp only); exact HCELL.out _ S4)
      clear hK K bb S3
      (try simp only [List.getElem_toArray, List.getElem_cons_succ, List.getElem_cons_zero, Act.put, List.setIfInBounds_toArray, List.set_cons_zero, List.set_cons_succ])
      generalize C3.alloc (.cells #[.int .i64 0, .int .i64 0] 24) = C4 at *
      generalize hp21 : C3.heap.size = p21 at *
      clear hp21
      refine wpAnyH_ready (rs := [23]) (by kernel_rfl) (by simp) ?_
      refine AllReadyH.cons (o := _) rfl (fun K hK => ?_) AllReadyH.nil
      have z0 := x21.c0
      have z1 := x21.c1
      have z2 := x21.f0
      have z3 := x21.f1
      have y21 := x21.put lo.1 lo.2
      have kk : Kept [p21] C4 ((C4.setCell ⟨p21, 0, none⟩ (.int .i64 lo.1)).setCell ⟨p21, 1, none⟩ (.int .i64 lo.2)) := kput C4 p21 _ _
      have y22 := x22.keep kk (by simpa using n2122)
      have S8 := as_put S4 g21 n21 kk (by rw [HBSZ.out]; exact HBB.out.1) (by rw [HBSZ.out]; exact HBB.out.2)
      go_simp
      refine hK.out _ _ ?_ (fun hHeld => ?_)
      · ((try dsimp only); exact HCELL.out _ S8)
      clear hK K z0 z1 z2 z3 kk x21 x22 S4
      (try simp only [List.getElem_toArray, List.getElem_cons_succ, List.getElem_cons_zero, Act.put, List.setIfInBounds_toArray, List.set_cons_zero, List.set_cons_succ])
      generalize (C4.setCell ⟨p21, 0, none⟩ (.int .i64 lo.1)).setCell ⟨p21, 1, none⟩ (.int .i64 lo.2) = C8 at *
      refine wpAnyH_ready (rs := [24]) (by kernel_rfl) (by simp) ?_
      refine AllReadyH.cons (o := _) rfl (fun K hK => ?_) AllReadyH.nil
      have z0 := y22.c0
      have z1 := y22.c1
      have z2 := y22.f0
      have z3 := y22.f1
      have w22 := y22.put up.1 up.2
      have kk : Kept [p22] C8 ((C8.setCell ⟨p22, 0, none⟩ (.int .i64 up.1)).setCell ⟨p22, 1, none⟩ (.int .i64 up.2)) := kput C8 p22 _ _
      have w21 := y21.keep kk (by simpa using n2122.symm)
      have S9 := as_put S8 g22 n22 kk (by rw [HBSZ.out]; exact HBB.out.1) (by rw [HBSZ.out]; exact HBB.out.2)
      go_simp
      refine hK.out _ _ ?_ (fun hHeld => ?_)
      · ((try dsimp only); exact HCELL.out _ S9)
      clear hK K z0 z1 z2 z3 kk y21 y22 S8
      (try simp only [List.getElem_toArray, List.getElem_cons_succ, List.getElem_cons_zero, Act.put, List.setIfInBounds_toArray, List.set_cons_zero, List.set_cons_succ])
      refine wpAnyH_done (by kernel_rfl) ?_ _
      refine NoPanic.normal ?_
      have HS9 := Lib.hid (And.intro S9 (And.intro w21 w22))
      clear S9 w21 w22 hHeld
      generalize (C8.setCell ⟨p22, 0, none⟩ (.int .i64 up.1)).setCell ⟨p22, 1, none⟩ (.int .i64 up.2) = W9 at *
      obtain ⟨S9, x21', x22'⟩ := HS9.out
      have e0 := x21'.c0; have e1 := x21'.c1; have e2 := x22'.c0; have e3 := x22'.c1
      have bR := bal (w := W9) (.cells #[.int .i64 lo.1, .int .i64 lo.2, .int .i64 up.1, .int .i64 up.2] 24)
      have xR := row2_new W9 lo up
      have SR := S9.later bR
      have hgR := S9.below.size
      have HR := Lib.hid (replace_any (B := B) (f := f) (t := u + 1) (sg := W9.heap.size) (k := 2) (ys := ne lo ++ ne up) SR.at_ hft2 htn hn (by have h1 : ∀ x : Sp, (ne x).length ≤ 1 := (fun x => by unfold ne; split <;> simp); have := h1 lo; have := h1 up; simp only [List.length_append]; omega) (by have := HBB.out.1; have := HBSZ.out; omega) (fun hh => by have := HBB.out.2 _ hh; have := HBSZ.out; omega) (by omega) (lt_of_block xR) (del_two lo up xR))
      rw [← HAD.out] at HR
      have HSR := Lib.hid SR
      clear S9 x21' x22' HS9 bR xR SR
      go_wp2_with fail
      refine HR.out.mono ?_
      rintro e w12 hrep
      have hset := set_rep HH.out HSR.out.below hgR hrep
      clear hrep e0 e1 e2 e3
      rcases hset with ⟨h1, rfl, h2⟩ | ⟨h1, rfl, h2⟩
      · have hR : R = (0, 4, l) := by rw [HAN.out, if_pos h1]
        have HF := Lib.hid (show ChgPost B (some ⟨g, off, none⟩) cap R w (.returned (.tuple #[.int .i64 0, .int .i64 4])) w12 from by rw [hR]; exact ⟨rfl, h2⟩)
        clear h1 h2 hR
        go_wp2_with fail
        go_ret2
        exact HF.out
      · have hR : R = (cm, 0, L') := by rw [HAN.out, if_neg (by omega)]
        have HF := Lib.hid (show ChgPost B (some ⟨g, off, none⟩) cap R w (.returned (.tuple #[.int .i64 cm, .int .i64 0])) w12 from by rw [hR]; exact ⟨rfl, h2⟩)
        clear h1 h2 hR
        go_wp2_with fail
        go_ret2
        exact HF.out
    refine AllReadyH.cons (o := _) rfl (fun K hK => ?_) AllReadyH.nil
    have bb := bal (w := C2) (.cells #[.int .i64 0, .int .i64 0] 24)
    have S3 := S2.later bb
    have x21 : SpAt (C2.alloc (.cells #[.int .i64 0, .int .i64 0] 24)) C2.heap.size (0, 0) := sp_new C2 (0, 0)
    have g21 : w.heap.size ≤ C2.heap.size := S2.below.size
    have n21 : bs ≠ C2.heap.size := by have := S2.size; omega
    have n2122 : p22 ≠ C2.heap.size := by have := x22.lt; omega
    replace x22 := x22.later bb
    go_simp
    refine hK.out _ _ ?_ (fun hHeld => ?_)
    · ((try dsimp only); exact HCELL.out _ S3)
    clear hK K bb S2
    (try simp only [List.getElem_toArray, List.getElem_cons_succ, List.getElem_cons_zero, Act.put, List.setIfInBounds_toArray, List.set_cons_zero, List.set_cons_succ])
    generalize C2.alloc (.cells #[.int .i64 0, .int .i64 0] 24) = C3 at *
    generalize hp21 : C2.heap.size = p21 at *
    clear hp21
    refine wpAnyH_ready (rs := [20]) (by kernel_rfl) (by simp) ?_
    refine AllReadyH.cons (o := _) rfl (fun K hK => ?_) AllReadyH.nil
    go_simp
    (with_reducible refine (HUP.out C3).mono ?_)
    rintro e C4 ⟨rfl, bb⟩
    have S4 := S3.later bb
    replace x21 := x21.later bb
    replace x22 := x22.later bb
    refine hK.out _ _ ?_ (fun hHeld => ?_)
    · ((try dsimp only); exact HCELL.out _ S4)
    clear hK K bb S3
    (try simp only [List.getElem_toArray, List.getElem_cons_succ, List.getElem_cons_zero, Act.put, List.setIfInBounds_toArray, List.set_cons_zero, List.set_cons_succ])
    refine wpAnyH_ready (rs := [23]) (by kernel_rfl) (by simp) ?_
    refine AllReadyH.cons (o := _) rfl (fun K hK => ?_) AllReadyH.nil
    have z0 := x21.c0
    have z1 := x21.c1
    have z2 := x21.f0
    have z3 := x21.f1
    have y21 := x21.put lo.1 lo.2
    have kk : Kept [p21] C4 ((C4.setCell ⟨p21, 0, none⟩ (.int .i64 lo.1)).setCell ⟨p21, 1, none⟩ (.int .i64 lo.2)) := kput C4 p21 _ _
    have y22 := x22.keep kk (by simpa using n2122)
    have S8 := as_put S4 g21 n21 kk (by rw [HBSZ.out]; exact HBB.out.1) (by rw [HBSZ.out]; exact HBB.out.2)
    go_simp
    refine hK.out _ _ ?_ (fun hHeld => ?_)
    · ((try dsimp only); exact HCELL.out _ S8)
    clear hK K z0 z1 z2 z3 kk x21 x22 S4
    (try simp only [List.getElem_toArray, List.getElem_cons_succ, List.getElem_cons_zero, Act.put, List.setIfInBounds_toArray, List.set_cons_zero, List.set_cons_succ])
    generalize (C4.setCell ⟨p21, 0, none⟩ (.int .i64 lo.1)).setCell ⟨p21, 1, none⟩ (.int .i64 lo.2) = C8 at *
    refine wpAnyH_ready (rs := [24]) (by kernel_rfl) (by simp) ?_
    refine AllReadyH.cons (o := _) rfl (fun K hK => ?_) AllReadyH.nil
    have z0 := y22.c0
    have z1 := y22.c1
    have z2 := y22.f0
    have z3 := y22.f1
    have w22 := y22.put up.1 up.2
    have kk : Kept [p22] C8 ((C8.setCell ⟨p22, 0, none⟩ (.int .i64 up.1)).setCell ⟨p22, 1, none⟩ (.int .i64 up.2)) := kput C8 p22 _ _
    have w21 := y21.keep kk (by simpa using n2122.symm)
    have S9 := as_put S8 g22 n22 kk (by rw [HBSZ.out]; exact HBB.out.1) (by rw [HBSZ.out]; exact HBB.out.2)
    go_simp
    refine hK.out _ _ ?_ (fun hHeld => ?_)
    · ((try dsimp only); exact HCELL.out _ S9)
    clear hK K z0 z1 z2 z3 kk y21 y22 S8
    (try simp only [List.getElem_toArray, List.getElem_cons_succ, List.getElem_cons_zero, Act.put, List.setIfInBounds_toArray, List.set_cons_zero, List.set_cons_succ])
    refine wpAnyH_done (by kernel_rfl) ?_ _
    refine NoPanic.normal ?_
    have HS9 := Lib.hid (And.intro S9 (And.intro w21 w22))
    clear S9 w21 w22 hHeld
    generalize (C8.setCell ⟨p22, 0, none⟩ (.int .i64 up.1)).setCell ⟨p22, 1, none⟩ (.int .i64 up.2) = W9 at *
    obtain ⟨S9, x21', x22'⟩ := HS9.out
    have e0 := x21'.c0; have e1 := x21'.c1; have e2 := x22'.c0; have e3 := x22'.c1
    have bR := bal (w := W9) (.cells #[.int .i64 lo.1, .int .i64 lo.2, .int .i64 up.1, .int .i64 up.2] 24)
    have xR := row2_new W9 lo up
    have SR := S9.later bR
    have hgR := S9.below.size
    have HR := Lib.hid (replace_any (B := B) (f := f) (t := u + 1) (sg := W9.heap.size) (k := 2) (ys := ne lo ++ ne up) SR.at_ hft2 htn hn (by have h1 : ∀ x : Sp, (ne x).length ≤ 1 := (fun x => by unfold ne; split <;> simp); have := h1 lo; have := h1 up; simp only [List.length_append]; omega) (by have := HBB.out.1; have := HBSZ.out; omega) (fun hh => by have := HBB.out.2 _ hh; have := HBSZ.out; omega) (by omega) (lt_of_block xR) (del_two lo up xR))
    rw [← HAD.out] at HR
    have HSR := Lib.hid SR
    clear S9 x21' x22' HS9 bR xR SR
    go_wp2_with fail
    refine HR.out.mono ?_
    rintro e w12 hrep
    have hset := set_rep HH.out HSR.out.below hgR hrep
    clear hrep e0 e1 e2 e3
    rcases hset with ⟨h1, rfl, h2⟩ | ⟨h1, rfl, h2⟩
    · have hR : R = (0, 4, l) := by rw [HAN.out, if_pos h1]
      have HF := Lib.hid (show ChgPost B (some ⟨g, off, none⟩) cap R w (.returned (.tuple #[.int .i64 0, .int .i64 4])) w12 from by rw [hR]; exact ⟨rfl, h2⟩)
      clear h1 h2 hR
      go_wp2_with fail
      go_ret2
      exact HF.out
    · have hR : R = (cm, 0, L') := by rw [HAN.out, if_neg (by omega)]
      have HF := Lib.hid (show ChgPost B (some ⟨g, off, none⟩) cap R w (.returned (.tuple #[.int .i64 cm, .int .i64 0])) w12 from by rw [hR]; exact ⟨rfl, h2⟩)
      clear h1 h2 hR
      go_wp2_with fail
      go_ret2
      exact HF.out
  refine AllReadyH.cons (o := _) rfl (fun K hK => ?_) ?_
  · have bb := bal (w := C0) (.cells #[.int .i64 0, .int .i64 0] 24)
    have S1 := S0.later bb
    have x21 : SpAt (C0.alloc (.cells #[.int .i64 0, .int .i64 0] 24)) C0.heap.size (0, 0) := sp_new C0 (0, 0)
    have g21 : w.heap.size ≤ C0.heap.size := S0.below.size
    have n21 : bs ≠ C0.heap.size := by have := S0.size; omega
    go_simp
    refine hK.out _ _ ?_ (fun hHeld => ?_)
    · ((try dsimp only); exact HCELL.out _ S1)
    clear hK K bb S0
    (try simp only [List.getElem_toArray, List.getElem_cons_succ, List.getElem_cons_zero, Act.put, List.setIfInBounds_toArray, List.set_cons_zero, List.set_cons_succ])
    generalize C0.alloc (.cells #[.int .i64 0, .int .i64 0] 24) = C1 at *
    generalize hp21 : C0.heap.size = p21 at *
    clear hp21
    refine wpAnyH_ready (rs := [9, 22]) (by kernel_rfl) (by simp) ?_
    refine AllReadyH.cons (o := _) rfl (fun K hK => ?_) ?_
    · go_simp
      (with_reducible refine (HLO.out C1).mono ?_)
      rintro e C2 ⟨rfl, bb⟩
      have S2 := S1.later bb
      replace x21 := x21.later bb
      refine hK.out _ _ ?_ (fun hHeld => ?_)
      · ((try dsimp only); exact HCELL.out _ S2)
      clear hK K bb S1
      (try simp only [List.getElem_toArray, List.getElem_cons_succ, List.getElem_cons_zero, Act.put, List.setIfInBounds_toArray, List.set_cons_zero, List.set_cons_succ])
      refine wpAnyH_ready (rs := [20, 22]) (by kernel_rfl) (by simp) ?_
      refine AllReadyH.cons (o := _) rfl (fun K hK => ?_) ?_
      · go_simp
        (with_reducible refine (HUP.out C2).mono ?_)
        rintro e C3 ⟨rfl, bb⟩
        have S3 := S2.later bb
        replace x21 := x21.later bb
        refine hK.out _ _ ?_ (fun hHeld => ?_)
        · ((try dsimp only); exact HCELL.out _ S3)
        clear hK K bb S2
        (try simp only [List.getElem_toArray, List.getElem_cons_succ, List.getElem_cons_zero, Act.put, List.setIfInBounds_toArray, List.set_cons_zero, List.set_cons_succ])
        refine wpAnyH_ready (rs := [22]) (by kernel_rfl) (by simp) ?_
        refine AllReadyH.cons (o := _) rfl (fun K hK => ?_) AllReadyH.nil
        have bb := bal (w := C3) (.cells #[.int .i64 0, .int .i64 0] 24)
        have S4 := S3.later bb
        have x22 : SpAt (C3.alloc (.cells #[.int .i64 0, .int .i64 0] 24)) C3.heap.size (0, 0) := sp_new C3 (0, 0)
        have g22 : w.heap.size ≤ C3.heap.size := S3.below.size
        have n22 : bs ≠ C3.heap.size := by have := S3.size; omega
        have n2122 : C3.heap.size ≠ p21 := by have := x21.lt; omega
        replace x21 := x21.later bb
        go_simp
        refine hK.out _ _ ?_ (fun hHeld => ?_)
        · ((try dsimp only); exact HCELL.out _ S4)
        clear hK K bb S3
        (try simp only [List.getElem_toArray, List.getElem_cons_succ, List.getElem_cons_zero, Act.put, List.setIfInBounds_toArray, List.set_cons_zero, List.set_cons_succ])
        generalize C3.alloc (.cells #[.int .i64 0, .int .i64 0] 24) = C4 at *
        generalize hp22 : C3.heap.size = p22 at *
        clear hp22
        refine wpAnyH_ready (rs := [23]) (by kernel_rfl) (by simp) ?_
        refine AllReadyH.cons (o := _) rfl (fun K hK => ?_) AllReadyH.nil
        have z0 := x21.c0
        have z1 := x21.c1
        have z2 := x21.f0
        have z3 := x21.f1
        have y21 := x21.put lo.1 lo.2
        have kk : Kept [p21] C4 ((C4.setCell ⟨p21, 0, none⟩ (.int .i64 lo.1)).setCell ⟨p21, 1, none⟩ (.int .i64 lo.2)) := kput C4 p21 _ _
        have y22 := x22.keep kk (by simpa using n2122)
        have S8 := as_put S4 g21 n21 kk (by rw [HBSZ.out]; exact HBB.out.1) (by rw [HBSZ.out]; exact HBB.out.2)
        go_simp
        refine hK.out _ _ ?_ (fun hHeld => ?_)
        · ((try dsimp only); exact HCELL.out _ S8)
        clear hK K z0 z1 z2 z3 kk x21 x22 S4
        (try simp only [List.getElem_toArray, List.getElem_cons_succ, List.getElem_cons_zero, Act.put, List.setIfInBounds_toArray, List.set_cons_zero, List.set_cons_succ])
        generalize (C4.setCell ⟨p21, 0, none⟩ (.int .i64 lo.1)).setCell ⟨p21, 1, none⟩ (.int .i64 lo.2) = C8 at *
        refine wpAnyH_ready (rs := [24]) (by kernel_rfl) (by simp) ?_
        refine AllReadyH.cons (o := _) rfl (fun K hK => ?_) AllReadyH.nil
        have z0 := y22.c0
        have z1 := y22.c1
        have z2 := y22.f0
        have z3 := y22.f1
        have w22 := y22.put up.1 up.2
        have kk : Kept [p22] C8 ((C8.setCell ⟨p22, 0, none⟩ (.int .i64 up.1)).setCell ⟨p22, 1, none⟩ (.int .i64 up.2)) := kput C8 p22 _ _
        have w21 := y21.keep kk (by simpa using n2122.symm)
        have S9 := as_put S8 g22 n22 kk (by rw [HBSZ.out]; exact HBB.out.1) (by rw [HBSZ.out]; exact HBB.out.2)
        go_simp
        refine hK.out _ _ ?_ (fun hHeld => ?_)
        · ((try dsimp only); exact HCELL.out _ S9)
        clear hK K z0 z1 z2 z3 kk y21 y22 S8
        (try simp only [List.getElem_toArray, List.getElem_cons_succ, List.getElem_cons_zero, Act.put, List.setIfInBounds_toArray, List.set_cons_zero, List.set_cons_succ])
        refine wpAnyH_done (by kernel_rfl) ?_ _
        refine NoPanic.normal ?_
        have HS9 := Lib.hid (And.intro S9 (And.intro w21 w22))
        clear S9 w21 w22 hHeld
        generalize (C8.setCell ⟨p22, 0, none⟩ (.int .i64 up.1)).setCell ⟨p22, 1, none⟩ (.int .i64 up.2) = W9 at *
        obtain ⟨S9, x21', x22'⟩ := HS9.out
        have e0 := x21'.c0; have e1 := x21'.c1; have e2 := x22'.c0; have e3 := x22'.c1
        have bR := bal (w := W9) (.cells #[.int .i64 lo.1, .int .i64 lo.2, .int .i64 up.1, .int .i64 up.2] 24)
        have xR := row2_new W9 lo up
        have SR := S9.later bR
        have hgR := S9.below.size
        have HR := Lib.hid (replace_any (B := B) (f := f) (t := u + 1) (sg := W9.heap.size) (k := 2) (ys := ne lo ++ ne up) SR.at_ hft2 htn hn (by have h1 : ∀ x : Sp, (ne x).length ≤ 1 := (fun x => by unfold ne; split <;> simp); have := h1 lo; have := h1 up; simp only [List.length_append]; omega) (by have := HBB.out.1; have := HBSZ.out; omega) (fun hh => by have := HBB.out.2 _ hh; have := HBSZ.out; omega) (by omega) (lt_of_block xR) (del_two lo up xR))
        rw [← HAD.out] at HR
        have HSR := Lib.hid SR
        clear S9 x21' x22' HS9 bR xR SR
        go_wp2_with fail
        refine HR.out.mono ?_
        rintro e w12 hrep
        have hset := set_rep HH.out HSR.out.below hgR hrep
        clear hrep e0 e1 e2 e3
        rcases hset with ⟨h1, rfl, h2⟩ | ⟨h1, rfl, h2⟩
        · have hR : R = (0, 4, l) := by rw [HAN.out, if_pos h1]
          have HF := Lib.hid (show ChgPost B (some ⟨g, off, none⟩) cap R w (.returned (.tuple #[.int .i64 0, .int .i64 4])) w12 from by rw [hR]; exact ⟨rfl, h2⟩)
          clear h1 h2 hR
          go_wp2_with fail
          go_ret2
          exact HF.out
        · have hR : R = (cm, 0, L') := by rw [HAN.out, if_neg (by omega)]
          have HF := Lib.hid (show ChgPost B (some ⟨g, off, none⟩) cap R w (.returned (.tuple #[.int .i64 cm, .int .i64 0])) w12 from by rw [hR]; exact ⟨rfl, h2⟩)
          clear h1 h2 hR
          go_wp2_with fail
          go_ret2
          exact HF.out
      refine AllReadyH.cons (o := _) rfl (fun K hK => ?_) AllReadyH.nil
      have bb := bal (w := C2) (.cells #[.int .i64 0, .int .i64 0] 24)
      have S3 := S2.later bb
      have x22 : SpAt (C2.alloc (.cells #[.int .i64 0, .int .i64 0] 24)) C2.heap.size (0, 0) := sp_new C2 (0, 0)
      have g22 : w.heap.size ≤ C2.heap.size := S2.below.size
      have n22 : bs ≠ C2.heap.size := by have := S2.size; omega
      have n2122 : C2.heap.size ≠ p21 := by have := x21.lt; omega
      replace x21 := x21.later bb
      go_simp
      refine hK.out _ _ ?_ (fun hHeld => ?_)
      · ((try dsimp only); exact HCELL.out _ S3)
      clear hK K bb S2
      (try simp only [List.getElem_toArray, List.getElem_cons_succ, List.getElem_cons_zero, Act.put, List.setIfInBounds_toArray, List.set_cons_zero, List.set_cons_succ])
      generalize C2.alloc (.cells #[.int .i64 0, .int .i64 0] 24) = C3 at *
      generalize hp22 : C2.heap.size = p22 at *
      clear hp22
      refine wpAnyH_ready (rs := [20]) (by kernel_rfl) (by simp) ?_
      refine AllReadyH.cons (o := _) rfl (fun K hK => ?_) AllReadyH.nil
      go_simp
      (with_reducible refine (HUP.out C3).mono ?_)
      rintro e C4 ⟨rfl, bb⟩
      have S4 := S3.later bb
      replace x21 := x21.later bb
      replace x22 := x22.later bb
      refine hK.out _ _ ?_ (fun hHeld => ?_)
      · ((try dsimp only); exact HCELL.out _ S4)
      clear hK K bb S3
      (try simp only [List.getElem_toArray, List.getElem_cons_succ, List.getElem_cons_zero, Act.put, List.setIfInBounds_toArray, List.set_cons_zero, List.set_cons_succ])
      refine wpAnyH_ready (rs := [23]) (by kernel_rfl) (by simp) ?_
      refine AllReadyH.cons (o := _) rfl (fun K hK => ?_) AllReadyH.nil
      have z0 := x21.c0
      have z1 := x21.c1
      have z2 := x21.f0
      have z3 := x21.f1
      have y21 := x21.put lo.1 lo.2
      have kk : Kept [p21] C4 ((C4.setCell ⟨p21, 0, none⟩ (.int .i64 lo.1)).setCell ⟨p21, 1, none⟩ (.int .i64 lo.2)) := kput C4 p21 _ _
      have y22 := x22.keep kk (by simpa using n2122)
      have S8 := as_put S4 g21 n21 kk (by rw [HBSZ.out]; exact HBB.out.1) (by rw [HBSZ.out]; exact HBB.out.2)
      go_simp
      refine hK.out _ _ ?_ (fun hHeld => ?_)
      · ((try dsimp only); exact HCELL.out _ S8)
      clear hK K z0 z1 z2 z3 kk x21 x22 S4
      (try simp only [List.getElem_toArray, List.getElem_cons_succ, List.getElem_cons_zero, Act.put, List.setIfInBounds_toArray, List.set_cons_zero, List.set_cons_succ])
      generalize (C4.setCell ⟨p21, 0, none⟩ (.int .i64 lo.1)).setCell ⟨p21, 1, none⟩ (.int .i64 lo.2) = C8 at *
      refine wpAnyH_ready (rs := [24]) (by kernel_rfl) (by simp) ?_
      refine AllReadyH.cons (o := _) rfl (fun K hK => ?_) AllReadyH.nil
      have z0 := y22.c0
      have z1 := y22.c1
      have z2 := y22.f0
      have z3 := y22.f1
      have w22 := y22.put up.1 up.2
      have kk : Kept [p22] C8 ((C8.setCell ⟨p22, 0, none⟩ (.int .i64 up.1)).setCell ⟨p22, 1, none⟩ (.int .i64 up.2)) := kput C8 p22 _ _
      have w21 := y21.keep kk (by simpa using n2122.symm)
      have S9 := as_put S8 g22 n22 kk (by rw [HBSZ.out]; exact HBB.out.1) (by rw [HBSZ.out]; exact HBB.out.2)
      go_simp
      refine hK.out _ _ ?_ (fun hHeld => ?_)
      · ((try dsimp only); exact HCELL.out _ S9)
      clear hK K z0 z1 z2 z3 kk y21 y22 S8
      (try simp only [List.getElem_toArray, List.getElem_cons_succ, List.getElem_cons_zero, Act.put, List.setIfInBounds_toArray, List.set_cons_zero, List.set_cons_succ])
      refine wpAnyH_done (by kernel_rfl) ?_ _
      refine NoPanic.normal ?_
      have HS9 := Lib.hid (And.intro S9 (And.intro w21 w22))
      clear S9 w21 w22 hHeld
      generalize (C8.setCell ⟨p22, 0, none⟩ (.int .i64 up.1)).setCell ⟨p22, 1, none⟩ (.int .i64 up.2) = W9 at *
      obtain ⟨S9, x21', x22'⟩ := HS9.out
      have e0 := x21'.c0; have e1 := x21'.c1; have e2 := x22'.c0; have e3 := x22'.c1
      have bR := bal (w := W9) (.cells #[.int .i64 lo.1, .int .i64 lo.2, .int .i64 up.1, .int .i64 up.2] 24)
      have xR := row2_new W9 lo up
      have SR := S9.later bR
      have hgR := S9.below.size
      have HR := Lib.hid (replace_any (B := B) (f := f) (t := u + 1) (sg := W9.heap.size) (k := 2) (ys := ne lo ++ ne up) SR.at_ hft2 htn hn (by have h1 : ∀ x : Sp, (ne x).length ≤ 1 := (fun x => by unfold ne; split <;> simp); have := h1 lo; have := h1 up; simp only [List.length_append]; omega) (by have := HBB.out.1; have := HBSZ.out; omega) (fun hh => by have := HBB.out.2 _ hh; have := HBSZ.out; omega) (by omega) (lt_of_block xR) (del_two lo up xR))
      rw [← HAD.out] at HR
      have HSR := Lib.hid SR
      clear S9 x21' x22' HS9 bR xR SR
      go_wp2_with fail
      refine HR.out.mono ?_
      rintro e w12 hrep
      have hset := set_rep HH.out HSR.out.below hgR hrep
      clear hrep e0 e1 e2 e3
      rcases hset with ⟨h1, rfl, h2⟩ | ⟨h1, rfl, h2⟩
      · have hR : R = (0, 4, l) := by rw [HAN.out, if_pos h1]
        have HF := Lib.hid (show ChgPost B (some ⟨g, off, none⟩) cap R w (.returned (.tuple #[.int .i64 0, .int .i64 4])) w12 from by rw [hR]; exact ⟨rfl, h2⟩)
        clear h1 h2 hR
        go_wp2_with fail
        go_ret2
        exact HF.out
      · have hR : R = (cm, 0, L') := by rw [HAN.out, if_neg (by omega)]
        have HF := Lib.hid (show ChgPost B (some ⟨g, off, none⟩) cap R w (.returned (.tuple #[.int .i64 cm, .int .i64 0])) w12 from by rw [hR]; exact ⟨rfl, h2⟩)
        clear h1 h2 hR
        go_wp2_with fail
        go_ret2
        exact HF.out
    refine AllReadyH.cons (o := _) rfl (fun K hK => ?_) AllReadyH.nil
    have bb := bal (w := C1) (.cells #[.int .i64 0, .int .i64 0] 24)
    have S2 := S1.later bb
    have x22 : SpAt (C1.alloc (.cells #[.int .i64 0, .int .i64 0] 24)) C1.heap.size (0, 0) := sp_new C1 (0, 0)
    have g22 : w.heap.size ≤ C1.heap.size := S1.below.size
    have n22 : bs ≠ C1.heap.size := by have := S1.size; omega
    have n2122 : C1.heap.size ≠ p21 := by have := x21.lt; omega
    replace x21 := x21.later bb
    go_simp
    refine hK.out _ _ ?_ (fun hHeld => ?_)
    · ((try dsimp only); exact HCELL.out _ S2)
    clear hK K bb S1
    (try simp only [List.getElem_toArray, List.getElem_cons_succ, List.getElem_cons_zero, Act.put, List.setIfInBounds_toArray, List.set_cons_zero, List.set_cons_succ])
    generalize C1.alloc (.cells #[.int .i64 0, .int .i64 0] 24) = C2 at *
    generalize hp22 : C1.heap.size = p22 at *
    clear hp22
    refine wpAnyH_ready (rs := [9]) (by kernel_rfl) (by simp) ?_
    refine AllReadyH.cons (o := _) rfl (fun K hK => ?_) AllReadyH.nil
    go_simp
    (with_reducible refine (HLO.out C2).mono ?_)
    rintro e C3 ⟨rfl, bb⟩
    have S3 := S2.later bb
    replace x21 := x21.later bb
    replace x22 := x22.later bb
    refine hK.out _ _ ?_ (fun hHeld => ?_)
    · ((try dsimp only); exact HCELL.out _ S3)
    clear hK K bb S2
    (try simp only [List.getElem_toArray, List.getElem_cons_succ, List.getElem_cons_zero, Act.put, List.setIfInBounds_toArray, List.set_cons_zero, List.set_cons_succ])
    refine wpAnyH_ready (rs := [20]) (by kernel_rfl) (by simp) ?_
    refine AllReadyH.cons (o := _) rfl (fun K hK => ?_) AllReadyH.nil
    go_simp
    (with_reducible refine (HUP.out C3).mono ?_)
    rintro e C4 ⟨rfl, bb⟩
    have S4 := S3.later bb
    replace x21 := x21.later bb
    replace x22 := x22.later bb
    refine hK.out _ _ ?_ (fun hHeld => ?_)
    · ((try dsimp only); exact HCELL.out _ S4)
    clear hK K bb S3
    (try simp only [List.getElem_toArray, List.getElem_cons_succ, List.getElem_cons_zero, Act.put, List.setIfInBounds_toArray, List.set_cons_zero, List.set_cons_succ])
    refine wpAnyH_ready (rs := [23]) (by kernel_rfl) (by simp) ?_
    refine AllReadyH.cons (o := _) rfl (fun K hK => ?_) AllReadyH.nil
    have z0 := x21.c0
    have z1 := x21.c1
    have z2 := x21.f0
    have z3 := x21.f1
    have y21 := x21.put lo.1 lo.2
    have kk : Kept [p21] C4 ((C4.setCell ⟨p21, 0, none⟩ (.int .i64 lo.1)).setCell ⟨p21, 1, none⟩ (.int .i64 lo.2)) := kput C4 p21 _ _
    have y22 := x22.keep kk (by simpa using n2122)
    have S8 := as_put S4 g21 n21 kk (by rw [HBSZ.out]; exact HBB.out.1) (by rw [HBSZ.out]; exact HBB.out.2)
    go_simp
    refine hK.out _ _ ?_ (fun hHeld => ?_)
    · ((try dsimp only); exact HCELL.out _ S8)
    clear hK K z0 z1 z2 z3 kk x21 x22 S4
    (try simp only [List.getElem_toArray, List.getElem_cons_succ, List.getElem_cons_zero, Act.put, List.setIfInBounds_toArray, List.set_cons_zero, List.set_cons_succ])
    generalize (C4.setCell ⟨p21, 0, none⟩ (.int .i64 lo.1)).setCell ⟨p21, 1, none⟩ (.int .i64 lo.2) = C8 at *
    refine wpAnyH_ready (rs := [24]) (by kernel_rfl) (by simp) ?_
    refine AllReadyH.cons (o := _) rfl (fun K hK => ?_) AllReadyH.nil
    have z0 := y22.c0
    have z1 := y22.c1
    have z2 := y22.f0
    have z3 := y22.f1
    have w22 := y22.put up.1 up.2
    have kk : Kept [p22] C8 ((C8.setCell ⟨p22, 0, none⟩ (.int .i64 up.1)).setCell ⟨p22, 1, none⟩ (.int .i64 up.2)) := kput C8 p22 _ _
    have w21 := y21.keep kk (by simpa using n2122.symm)
    have S9 := as_put S8 g22 n22 kk (by rw [HBSZ.out]; exact HBB.out.1) (by rw [HBSZ.out]; exact HBB.out.2)
    go_simp
    refine hK.out _ _ ?_ (fun hHeld => ?_)
    · ((try dsimp only); exact HCELL.out _ S9)
    clear hK K z0 z1 z2 z3 kk y21 y22 S8
    (try simp only [List.getElem_toArray, List.getElem_cons_succ, List.getElem_cons_zero, Act.put, List.setIfInBounds_toArray, List.set_cons_zero, List.set_cons_succ])
    refine wpAnyH_done (by kernel_rfl) ?_ _
    refine NoPanic.normal ?_
    have HS9 := Lib.hid (And.intro S9 (And.intro w21 w22))
    clear S9 w21 w22 hHeld
    generalize (C8.setCell ⟨p22, 0, none⟩ (.int .i64 up.1)).setCell ⟨p22, 1, none⟩ (.int .i64 up.2) = W9 at *
    obtain ⟨S9, x21', x22'⟩ := HS9.out
    have e0 := x21'.c0; have e1 := x21'.c1; have e2 := x22'.c0; have e3 := x22'.c1
    have bR := bal (w := W9) (.cells #[.int .i64 lo.1, .int .i64 lo.2, .int .i64 up.1, .int .i64 up.2] 24)
    have xR := row2_new W9 lo up
    have SR := S9.later bR
    have hgR := S9.below.size
    have HR := Lib.hid (replace_any (B := B) (f := f) (t := u + 1) (sg := W9.heap.size) (k := 2) (ys := ne lo ++ ne up) SR.at_ hft2 htn hn (by have h1 : ∀ x : Sp, (ne x).length ≤ 1 := (fun x => by unfold ne; split <;> simp); have := h1 lo; have := h1 up; simp only [List.length_append]; omega) (by have := HBB.out.1; have := HBSZ.out; omega) (fun hh => by have := HBB.out.2 _ hh; have := HBSZ.out; omega) (by omega) (lt_of_block xR) (del_two lo up xR))
    rw [← HAD.out] at HR
    have HSR := Lib.hid SR
    clear S9 x21' x22' HS9 bR xR SR
    go_wp2_with fail
    refine HR.out.mono ?_
    rintro e w12 hrep
    have hset := set_rep HH.out HSR.out.below hgR hrep
    clear hrep e0 e1 e2 e3
    rcases hset with ⟨h1, rfl, h2⟩ | ⟨h1, rfl, h2⟩
    · have hR : R = (0, 4, l) := by rw [HAN.out, if_pos h1]
      have HF := Lib.hid (show ChgPost B (some ⟨g, off, none⟩) cap R w (.returned (.tuple #[.int .i64 0, .int .i64 4])) w12 from by rw [hR]; exact ⟨rfl, h2⟩)
      clear h1 h2 hR
      go_wp2_with fail
      go_ret2
      exact HF.out
    · have hR : R = (cm, 0, L') := by rw [HAN.out, if_neg (by omega)]
      have HF := Lib.hid (show ChgPost B (some ⟨g, off, none⟩) cap R w (.returned (.tuple #[.int .i64 cm, .int .i64 0])) w12 from by rw [hR]; exact ⟨rfl, h2⟩)
      clear h1 h2 hR
      go_wp2_with fail
      go_ret2
      exact HF.out
  refine AllReadyH.cons (o := _) rfl (fun K hK => ?_) AllReadyH.nil
  have bb := bal (w := C0) (.cells #[.int .i64 0, .int .i64 0] 24)
  have S1 := S0.later bb
  have x22 : SpAt (C0.alloc (.cells #[.int .i64 0, .int .i64 0] 24)) C0.heap.size (0, 0) := sp_new C0 (0, 0)
  have g22 : w.heap.size ≤ C0.heap.size := S0.below.size
  have n22 : bs ≠ C0.heap.size := by have := S0.size; omega
  go_simp
  refine hK.out _ _ ?_ (fun hHeld => ?_)
  · ((try dsimp only); exact HCELL.out _ S1)
  clear hK K bb S0
  (try simp only [List.getElem_toArray, List.getElem_cons_succ, List.getElem_cons_zero, Act.put, List.setIfInBounds_toArray, List.set_cons_zero, List.set_cons_succ])
  generalize C0.alloc (.cells #[.int .i64 0, .int .i64 0] 24) = C1 at *
  generalize hp22 : C0.heap.size = p22 at *
  clear hp22
  refine wpAnyH_ready (rs := [9, 21]) (by kernel_rfl) (by simp) ?_
  refine AllReadyH.cons (o := _) rfl (fun K hK => ?_) ?_
  · go_simp
    (with_reducible refine (HLO.out C1).mono ?_)
    rintro e C2 ⟨rfl, bb⟩
    have S2 := S1.later bb
    replace x22 := x22.later bb
    refine hK.out _ _ ?_ (fun hHeld => ?_)
    · ((try dsimp only); exact HCELL.out _ S2)
    clear hK K bb S1
    (try simp only [List.getElem_toArray, List.getElem_cons_succ, List.getElem_cons_zero, Act.put, List.setIfInBounds_toArray, List.set_cons_zero, List.set_cons_succ])
    refine wpAnyH_ready (rs := [20, 21]) (by kernel_rfl) (by simp) ?_
    refine AllReadyH.cons (o := _) rfl (fun K hK => ?_) ?_
    · go_simp
      (with_reducible refine (HUP.out C2).mono ?_)
      rintro e C3 ⟨rfl, bb⟩
      have S3 := S2.later bb
      replace x22 := x22.later bb
      refine hK.out _ _ ?_ (fun hHeld => ?_)
      · ((try dsimp only); exact HCELL.out _ S3)
      clear hK K bb S2
      (try simp only [List.getElem_toArray, List.getElem_cons_succ, List.getElem_cons_zero, Act.put, List.setIfInBounds_toArray, List.set_cons_zero, List.set_cons_succ])
      refine wpAnyH_ready (rs := [21]) (by kernel_rfl) (by simp) ?_
      refine AllReadyH.cons (o := _) rfl (fun K hK => ?_) AllReadyH.nil
      have bb := bal (w := C3) (.cells #[.int .i64 0, .int .i64 0] 24)
      have S4 := S3.later bb
      have x21 : SpAt (C3.alloc (.cells #[.int .i64 0, .int .i64 0] 24)) C3.heap.size (0, 0) := sp_new C3 (0, 0)
      have g21 : w.heap.size ≤ C3.heap.size := S3.below.size
      have n21 : bs ≠ C3.heap.size := by have := S3.size; omega
      have n2122 : p22 ≠ C3.heap.size := by have := x22.lt; omega
      replace x22 := x22.later bb
      go_simp
      refine hK.out _ _ ?_ (fun hHeld => ?_)
      · ((try dsimp only); exact HCELL.out _ S4)
      clear hK K bb S3
      (try simp only [List.getElem_toArray, List.getElem_cons_succ, List.getElem_cons_zero, Act.put, List.setIfInBounds_toArray, List.set_cons_zero, List.set_cons_succ])
      generalize C3.alloc (.cells #[.int .i64 0, .int .i64 0] 24) = C4 at *
      generalize hp21 : C3.heap.size = p21 at *
      clear hp21
      refine wpAnyH_ready (rs := [23]) (by kernel_rfl) (by simp) ?_
      refine AllReadyH.cons (o := _) rfl (fun K hK => ?_) AllReadyH.nil
      have z0 := x21.c0
      have z1 := x21.c1
      have z2 := x21.f0
      have z3 := x21.f1
      have y21 := x21.put lo.1 lo.2
      have kk : Kept [p21] C4 ((C4.setCell ⟨p21, 0, none⟩ (.int .i64 lo.1)).setCell ⟨p21, 1, none⟩ (.int .i64 lo.2)) := kput C4 p21 _ _
      have y22 := x22.keep kk (by simpa using n2122)
      have S8 := as_put S4 g21 n21 kk (by rw [HBSZ.out]; exact HBB.out.1) (by rw [HBSZ.out]; exact HBB.out.2)
      go_simp
      refine hK.out _ _ ?_ (fun hHeld => ?_)
      · ((try dsimp only); exact HCELL.out _ S8)
      clear hK K z0 z1 z2 z3 kk x21 x22 S4
      (try simp only [List.getElem_toArray, List.getElem_cons_succ, List.getElem_cons_zero, Act.put, List.setIfInBounds_toArray, List.set_cons_zero, List.set_cons_succ])
      generalize (C4.setCell ⟨p21, 0, none⟩ (.int .i64 lo.1)).setCell ⟨p21, 1, none⟩ (.int .i64 lo.2) = C8 at *
      refine wpAnyH_ready (rs := [24]) (by kernel_rfl) (by simp) ?_
      refine AllReadyH.cons (o := _) rfl (fun K hK => ?_) AllReadyH.nil
      have z0 := y22.c0
      have z1 := y22.c1
      have z2 := y22.f0
      have z3 := y22.f1
      have w22 := y22.put up.1 up.2
      have kk : Kept [p22] C8 ((C8.setCell ⟨p22, 0, none⟩ (.int .i64 up.1)).setCell ⟨p22, 1, none⟩ (.int .i64 up.2)) := kput C8 p22 _ _
      have w21 := y21.keep kk (by simpa using n2122.symm)
      have S9 := as_put S8 g22 n22 kk (by rw [HBSZ.out]; exact HBB.out.1) (by rw [HBSZ.out]; exact HBB.out.2)
      go_simp
      refine hK.out _ _ ?_ (fun hHeld => ?_)
      · ((try dsimp only); exact HCELL.out _ S9)
      clear hK K z0 z1 z2 z3 kk y21 y22 S8
      (try simp only [List.getElem_toArray, List.getElem_cons_succ, List.getElem_cons_zero, Act.put, List.setIfInBounds_toArray, List.set_cons_zero, List.set_cons_succ])
      refine wpAnyH_done (by kernel_rfl) ?_ _
      refine NoPanic.normal ?_
      have HS9 := Lib.hid (And.intro S9 (And.intro w21 w22))
      clear S9 w21 w22 hHeld
      generalize (C8.setCell ⟨p22, 0, none⟩ (.int .i64 up.1)).setCell ⟨p22, 1, none⟩ (.int .i64 up.2) = W9 at *
      obtain ⟨S9, x21', x22'⟩ := HS9.out
      have e0 := x21'.c0; have e1 := x21'.c1; have e2 := x22'.c0; have e3 := x22'.c1
      have bR := bal (w := W9) (.cells #[.int .i64 lo.1, .int .i64 lo.2, .int .i64 up.1, .int .i64 up.2] 24)
      have xR := row2_new W9 lo up
      have SR := S9.later bR
      have hgR := S9.below.size
      have HR := Lib.hid (replace_any (B := B) (f := f) (t := u + 1) (sg := W9.heap.size) (k := 2) (ys := ne lo ++ ne up) SR.at_ hft2 htn hn (by have h1 : ∀ x : Sp, (ne x).length ≤ 1 := (fun x => by unfold ne; split <;> simp); have := h1 lo; have := h1 up; simp only [List.length_append]; omega) (by have := HBB.out.1; have := HBSZ.out; omega) (fun hh => by have := HBB.out.2 _ hh; have := HBSZ.out; omega) (by omega) (lt_of_block xR) (del_two lo up xR))
      rw [← HAD.out] at HR
      have HSR := Lib.hid SR
      clear S9 x21' x22' HS9 bR xR SR
      go_wp2_with fail
      refine HR.out.mono ?_
      rintro e w12 hrep
      have hset := set_rep HH.out HSR.out.below hgR hrep
      clear hrep e0 e1 e2 e3
      rcases hset with ⟨h1, rfl, h2⟩ | ⟨h1, rfl, h2⟩
      · have hR : R = (0, 4, l) := by rw [HAN.out, if_pos h1]
        have HF := Lib.hid (show ChgPost B (some ⟨g, off, none⟩) cap R w (.returned (.tuple #[.int .i64 0, .int .i64 4])) w12 from by rw [hR]; exact ⟨rfl, h2⟩)
        clear h1 h2 hR
        go_wp2_with fail
        go_ret2
        exact HF.out
      · have hR : R = (cm, 0, L') := by rw [HAN.out, if_neg (by omega)]
        have HF := Lib.hid (show ChgPost B (some ⟨g, off, none⟩) cap R w (.returned (.tuple #[.int .i64 cm, .int .i64 0])) w12 from by rw [hR]; exact ⟨rfl, h2⟩)
        clear h1 h2 hR
        go_wp2_with fail
        go_ret2
        exact HF.out
    refine AllReadyH.cons (o := _) rfl (fun K hK => ?_) AllReadyH.nil
    have bb := bal (w := C2) (.cells #[.int .i64 0, .int .i64 0] 24)
    have S3 := S2.later bb
    have x21 : SpAt (C2.alloc (.cells #[.int .i64 0, .int .i64 0] 24)) C2.heap.size (0, 0) := sp_new C2 (0, 0)
    have g21 : w.heap.size ≤ C2.heap.size := S2.below.size
    have n21 : bs ≠ C2.heap.size := by have := S2.size; omega
    have n2122 : p22 ≠ C2.heap.size := by have := x22.lt; omega
    replace x22 := x22.later bb
    go_simp
    refine hK.out _ _ ?_ (fun hHeld => ?_)
    · ((try dsimp only); exact HCELL.out _ S3)
    clear hK K bb S2
    (try simp only [List.getElem_toArray, List.getElem_cons_succ, List.getElem_cons_zero, Act.put, List.setIfInBounds_toArray, List.set_cons_zero, List.set_cons_succ])
    generalize C2.alloc (.cells #[.int .i64 0, .int .i64 0] 24) = C3 at *
    generalize hp21 : C2.heap.size = p21 at *
    clear hp21
    refine wpAnyH_ready (rs := [20]) (by kernel_rfl) (by simp) ?_
    refine AllReadyH.cons (o := _) rfl (fun K hK => ?_) AllReadyH.nil
    go_simp
    (with_reducible refine (HUP.out C3).mono ?_)
    rintro e C4 ⟨rfl, bb⟩
    have S4 := S3.later bb
    replace x21 := x21.later bb
    replace x22 := x22.later bb
    refine hK.out _ _ ?_ (fun hHeld => ?_)
    · ((try dsimp only); exact HCELL.out _ S4)
    clear hK K bb S3
    (try simp only [List.getElem_toArray, List.getElem_cons_succ, List.getElem_cons_zero, Act.put, List.setIfInBounds_toArray, List.set_cons_zero, List.set_cons_succ])
    refine wpAnyH_ready (rs := [23]) (by kernel_rfl) (by simp) ?_
    refine AllReadyH.cons (o := _) rfl (fun K hK => ?_) AllReadyH.nil
    have z0 := x21.c0
    have z1 := x21.c1
    have z2 := x21.f0
    have z3 := x21.f1
    have y21 := x21.put lo.1 lo.2
    have kk : Kept [p21] C4 ((C4.setCell ⟨p21, 0, none⟩ (.int .i64 lo.1)).setCell ⟨p21, 1, none⟩ (.int .i64 lo.2)) := kput C4 p21 _ _
    have y22 := x22.keep kk (by simpa using n2122)
    have S8 := as_put S4 g21 n21 kk (by rw [HBSZ.out]; exact HBB.out.1) (by rw [HBSZ.out]; exact HBB.out.2)
    go_simp
    refine hK.out _ _ ?_ (fun hHeld => ?_)
    · ((try dsimp only); exact HCELL.out _ S8)
    clear hK K z0 z1 z2 z3 kk x21 x22 S4
    (try simp only [List.getElem_toArray, List.getElem_cons_succ, List.getElem_cons_zero, Act.put, List.setIfInBounds_toArray, List.set_cons_zero, List.set_cons_succ])
    generalize (C4.setCell ⟨p21, 0, none⟩ (.int .i64 lo.1)).setCell ⟨p21, 1, none⟩ (.int .i64 lo.2) = C8 at *
    refine wpAnyH_ready (rs := [24]) (by kernel_rfl) (by simp) ?_
    refine AllReadyH.cons (o := _) rfl (fun K hK => ?_) AllReadyH.nil
    have z0 := y22.c0
    have z1 := y22.c1
    have z2 := y22.f0
    have z3 := y22.f1
    have w22 := y22.put up.1 up.2
    have kk : Kept [p22] C8 ((C8.setCell ⟨p22, 0, none⟩ (.int .i64 up.1)).setCell ⟨p22, 1, none⟩ (.int .i64 up.2)) := kput C8 p22 _ _
    have w21 := y21.keep kk (by simpa using n2122.symm)
    have S9 := as_put S8 g22 n22 kk (by rw [HBSZ.out]; exact HBB.out.1) (by rw [HBSZ.out]; exact HBB.out.2)
    go_simp
    refine hK.out _ _ ?_ (fun hHeld => ?_)
    · ((try dsimp only); exact HCELL.out _ S9)
    clear hK K z0 z1 z2 z3 kk y21 y22 S8
    (try simp only [List.getElem_toArray, List.getElem_cons_succ, List.getElem_cons_zero, Act.put, List.setIfInBounds_toArray, List.set_cons_zero, List.set_cons_succ])
    refine wpAnyH_done (by kernel_rfl) ?_ _
    refine NoPanic.normal ?_
    have HS9 := Lib.hid (And.intro S9 (And.intro w21 w22))
    clear S9 w21 w22 hHeld
    generalize (C8.setCell ⟨p22, 0, none⟩ (.int .i64 up.1)).setCell ⟨p22, 1, none⟩ (.int .i64 up.2) = W9 at *
    obtain ⟨S9, x21', x22'⟩ := HS9.out
    have e0 := x21'.c0; have e1 := x21'.c1; have e2 := x22'.c0; have e3 := x22'.c1
    have bR := bal (w := W9) (.cells #[.int .i64 lo.1, .int .i64 lo.2, .int .i64 up.1, .int .i64 up.2] 24)
    have xR := row2_new W9 lo up
    have SR := S9.later bR
    have hgR := S9.below.size
    have HR := Lib.hid (replace_any (B := B) (f := f) (t := u + 1) (sg := W9.heap.size) (k := 2) (ys := ne lo ++ ne up) SR.at_ hft2 htn hn (by have h1 : ∀ x : Sp, (ne x).length ≤ 1 := (fun x => by unfold ne; split <;> simp); have := h1 lo; have := h1 up; simp only [List.length_append]; omega) (by have := HBB.out.1; have := HBSZ.out; omega) (fun hh => by have := HBB.out.2 _ hh; have := HBSZ.out; omega) (by omega) (lt_of_block xR) (del_two lo up xR))
    rw [← HAD.out] at HR
    have HSR := Lib.hid SR
    clear S9 x21' x22' HS9 bR xR SR
    go_wp2_with fail
    refine HR.out.mono ?_
    rintro e w12 hrep
    have hset := set_rep HH.out HSR.out.below hgR hrep
    clear hrep e0 e1 e2 e3
    rcases hset with ⟨h1, rfl, h2⟩ | ⟨h1, rfl, h2⟩
    · have hR : R = (0, 4, l) := by rw [HAN.out, if_pos h1]
      have HF := Lib.hid (show ChgPost B (some ⟨g, off, none⟩) cap R w (.returned (.tuple #[.int .i64 0, .int .i64 4])) w12 from by rw [hR]; exact ⟨rfl, h2⟩)
      clear h1 h2 hR
      go_wp2_with fail
      go_ret2
      exact HF.out
    · have hR : R = (cm, 0, L') := by rw [HAN.out, if_neg (by omega)]
      have HF := Lib.hid (show ChgPost B (some ⟨g, off, none⟩) cap R w (.returned (.tuple #[.int .i64 cm, .int .i64 0])) w12 from by rw [hR]; exact ⟨rfl, h2⟩)
      clear h1 h2 hR
      go_wp2_with fail
      go_ret2
      exact HF.out
  refine AllReadyH.cons (o := _) rfl (fun K hK => ?_) AllReadyH.nil
  have bb := bal (w := C1) (.cells #[.int .i64 0, .int .i64 0] 24)
  have S2 := S1.later bb
  have x21 : SpAt (C1.alloc (.cells #[.int .i64 0, .int .i64 0] 24)) C1.heap.size (0, 0) := sp_new C1 (0, 0)
  have g21 : w.heap.size ≤ C1.heap.size := S1.below.size
  have n21 : bs ≠ C1.heap.size := by have := S1.size; omega
  have n2122 : p22 ≠ C1.heap.size := by have := x22.lt; omega
  replace x22 := x22.later bb
  go_simp
  refine hK.out _ _ ?_ (fun hHeld => ?_)
  · ((try dsimp only); exact HCELL.out _ S2)
  clear hK K bb S1
  (try simp only [List.getElem_toArray, List.getElem_cons_succ, List.getElem_cons_zero, Act.put, List.setIfInBounds_toArray, List.set_cons_zero, List.set_cons_succ])
  generalize C1.alloc (.cells #[.int .i64 0, .int .i64 0] 24) = C2 at *
  generalize hp21 : C1.heap.size = p21 at *
  clear hp21
  refine wpAnyH_ready (rs := [9]) (by kernel_rfl) (by simp) ?_
  refine AllReadyH.cons (o := _) rfl (fun K hK => ?_) AllReadyH.nil
  go_simp
  (with_reducible refine (HLO.out C2).mono ?_)
  rintro e C3 ⟨rfl, bb⟩
  have S3 := S2.later bb
  replace x21 := x21.later bb
  replace x22 := x22.later bb
  refine hK.out _ _ ?_ (fun hHeld => ?_)
  · ((try dsimp only); exact HCELL.out _ S3)
  clear hK K bb S2
  (try simp only [List.getElem_toArray, List.getElem_cons_succ, List.getElem_cons_zero, Act.put, List.setIfInBounds_toArray, List.set_cons_zero, List.set_cons_succ])
  refine wpAnyH_ready (rs := [20]) (by kernel_rfl) (by simp) ?_
  refine AllReadyH.cons (o := _) rfl (fun K hK => ?_) AllReadyH.nil
  go_simp
  (with_reducible refine (HUP.out C3).mono ?_)
  rintro e C4 ⟨rfl, bb⟩
  have S4 := S3.later bb
  replace x21 := x21.later bb
  replace x22 := x22.later bb
  refine hK.out _ _ ?_ (fun hHeld => ?_)
  · ((try dsimp only); exact HCELL.out _ S4)
  clear hK K bb S3
  (try simp only [List.getElem_toArray, List.getElem_cons_succ, List.getElem_cons_zero, Act.put, List.setIfInBounds_toArray, List.set_cons_zero, List.set_cons_succ])
  refine wpAnyH_ready (rs := [23]) (by kernel_rfl) (by simp) ?_
  refine AllReadyH.cons (o := _) rfl (fun K hK => ?_) AllReadyH.nil
  have z0 := x21.c0
  have z1 := x21.c1
  have z2 := x21.f0
  have z3 := x21.f1
  have y21 := x21.put lo.1 lo.2
  have kk : Kept [p21] C4 ((C4.setCell ⟨p21, 0, none⟩ (.int .i64 lo.1)).setCell ⟨p21, 1, none⟩ (.int .i64 lo.2)) := kput C4 p21 _ _
  have y22 := x22.keep kk (by simpa using n2122)
  have S8 := as_put S4 g21 n21 kk (by rw [HBSZ.out]; exact HBB.out.1) (by rw [HBSZ.out]; exact HBB.out.2)
  go_simp
  refine hK.out _ _ ?_ (fun hHeld => ?_)
  · ((try dsimp only); exact HCELL.out _ S8)
  clear hK K z0 z1 z2 z3 kk x21 x22 S4
  (try simp only [List.getElem_toArray, List.getElem_cons_succ, List.getElem_cons_zero, Act.put, List.setIfInBounds_toArray, List.set_cons_zero, List.set_cons_succ])
  generalize (C4.setCell ⟨p21, 0, none⟩ (.int .i64 lo.1)).setCell ⟨p21, 1, none⟩ (.int .i64 lo.2) = C8 at *
  refine wpAnyH_ready (rs := [24]) (by kernel_rfl) (by simp) ?_
  refine AllReadyH.cons (o := _) rfl (fun K hK => ?_) AllReadyH.nil
  have z0 := y22.c0
  have z1 := y22.c1
  have z2 := y22.f0
  have z3 := y22.f1
  have w22 := y22.put up.1 up.2
  have kk : Kept [p22] C8 ((C8.setCell ⟨p22, 0, none⟩ (.int .i64 up.1)).setCell ⟨p22, 1, none⟩ (.int .i64 up.2)) := kput C8 p22 _ _
  have w21 := y21.keep kk (by simpa using n2122.symm)
  have S9 := as_put S8 g22 n22 kk (by rw [HBSZ.out]; exact HBB.out.1) (by rw [HBSZ.out]; exact HBB.out.2)
  go_simp
  refine hK.out _ _ ?_ (fun hHeld => ?_)
  · ((try dsimp only); exact HCELL.out _ S9)
  clear hK K z0 z1 z2 z3 kk y21 y22 S8
  (try simp only [List.getElem_toArray, List.getElem_cons_succ, List.getElem_cons_zero, Act.put, List.setIfInBounds_toArray, List.set_cons_zero, List.set_cons_succ])
  refine wpAnyH_done (by kernel_rfl) ?_ _
  refine NoPanic.normal ?_
  have HS9 := Lib.hid (And.intro S9 (And.intro w21 w22))
  clear S9 w21 w22 hHeld
  generalize (C8.setCell ⟨p22, 0, none⟩ (.int .i64 up.1)).setCell ⟨p22, 1, none⟩ (.int .i64 up.2) = W9 at *
  obtain ⟨S9, x21', x22'⟩ := HS9.out
  have e0 := x21'.c0; have e1 := x21'.c1; have e2 := x22'.c0; have e3 := x22'.c1
  have bR := bal (w := W9) (.cells #[.int .i64 lo.1, .int .i64 lo.2, .int .i64 up.1, .int .i64 up.2] 24)
  have xR := row2_new W9 lo up
  have SR := S9.later bR
  have hgR := S9.below.size
  have HR := Lib.hid (replace_any (B := B) (f := f) (t := u + 1) (sg := W9.heap.size) (k := 2) (ys := ne lo ++ ne up) SR.at_ hft2 htn hn (by have h1 : ∀ x : Sp, (ne x).length ≤ 1 := (fun x => by unfold ne; split <;> simp); have := h1 lo; have := h1 up; simp only [List.length_append]; omega) (by have := HBB.out.1; have := HBSZ.out; omega) (fun hh => by have := HBB.out.2 _ hh; have := HBSZ.out; omega) (by omega) (lt_of_block xR) (del_two lo up xR))
  rw [← HAD.out] at HR
  have HSR := Lib.hid SR
  clear S9 x21' x22' HS9 bR xR SR
  go_wp2_with fail
  refine HR.out.mono ?_
  rintro e w12 hrep
  have hset := set_rep HH.out HSR.out.below hgR hrep
  clear hrep e0 e1 e2 e3
  rcases hset with ⟨h1, rfl, h2⟩ | ⟨h1, rfl, h2⟩
  · have hR : R = (0, 4, l) := by rw [HAN.out, if_pos h1]
    have HF := Lib.hid (show ChgPost B (some ⟨g, off, none⟩) cap R w (.returned (.tuple #[.int .i64 0, .int .i64 4])) w12 from by rw [hR]; exact ⟨rfl, h2⟩)
    clear h1 h2 hR
    go_wp2_with fail
    go_ret2
    exact HF.out
  · have hR : R = (cm, 0, L') := by rw [HAN.out, if_neg (by omega)]
    have HF := Lib.hid (show ChgPost B (some ⟨g, off, none⟩) cap R w (.returned (.tuple #[.int .i64 cm, .int .i64 0])) w12 from by rw [hR]; exact ⟨rfl, h2⟩)
    clear h1 h2 hR
    go_wp2_with fail
    go_ret2
    exact HF.out
end Go.Proofs.Ytgjkbejlfclpoaa.rn
