/-
  The reference's Encode, of options that may be.
-/
import Derived.Test.YtdfenlagokndkaaOptI
import Derived.Test.YtdfenlagokndkaaRef2
import Derived.IntWalk
namespace Go.Proofs.Ytdfenlagokndkaa.op
open Go.RowKit aid mem oc
set_option linter.unusedVariables false

theorem ownB {W W' : World} {base : Nat} {e : TypeId} {size : Nat} {v : Value} {n : Nat} {xs : List Value} (hb : Below W.heap.size W W') (h : W.ownsRow base e size v n xs) : W'.ownsRow base e size v n xs :=
  (Kept.of_below hb (Nat.le_refl _) []).own (by simp) h
theorem srcGrown {k : IntKind} {w w3 : World} {a : Option Addr} {n cap : Nat} {l : List Int} {row : Option Nat} (h : SlA k w a n cap l) (hg : w.grownBy w3 row) (hne : ∀ x, a = some x → some x.block ≠ row) : SlA k w3 a n cap l :=
  h.keep ((Kept.refl row.toList w).grown hg (fun j hj => .inl (by rw [hj]; simp))) (fun x hx hm => hne x hx (Option.mem_toList.1 hm).symm)
theorem by2 (n : Int) (h : 0 ≤ n ∧ n ≤ 65535) : bytesTo n 2 2 = two n := by simp [bytesTo, pw, two, List.range_succ]; omega
theorem by4 (n : Int) (h : 0 ≤ n ∧ n ≤ 4294967295) : bytesTo n 4 4 = four n := by simp [bytesTo, pw, four, List.range_succ]; omega

def padV : Value → Nat
  | .slice _ n _ => padN n
  | _ => 0

set_option maxRecDepth 100000 in
set_option maxHeartbeats 12800000 in
theorem rencode_ok (o : Opt) (a0 : Option Addr) (n cap : Nat) (w : World) (hf : o.Fit) (hbl : BlA w a0 n cap o.bl) (hc : chk o = 0) :
    Calls Try.prog 47 #[.agg (optCells o a0 n cap)] w (EncPost o w) := by
  obtain ⟨i0, hi, hz0, hz1, hz2⟩ := info_parts info_u8
  have hlen := hbl.len
  have hr : (0 ≤ o.mss ∧ o.mss ≤ 65535) ∧ (0 ≤ o.scale ∧ o.scale ≤ 14) ∧ n ≤ 4 := by
    rw [← hlen]
    unfold chk at hc
    (repeat' split at hc) <;> omega
  obtain ⟨hmss, hscale, hn⟩ := hr
  have hbox := opt_new w o a0 n cap 25
  have hbl1 := hbl.later ((Below.refl _ _).alloc (Nat.le_refl _) (.cells (optCells o a0 n cap) 25))
  have hb1 : Below w.heap.size w (w.alloc (.cells (optCells o a0 n cap) 25)) := (Below.refl _ _).alloc (Nat.le_refl _) _
  have hC := rchk_any o a0 n cap (w.alloc (.cells (optCells o a0 n cap) 25)) hbl1
  rw [hc] at hC
  have HLEN := Lib.hid hlen
  clear hc hbl hlen
  unfold optCells at hC hbox hbl1 hb1 ⊢
  go_enter Try.func47, Try.ntmps47
  go_wp2_with fail
  obtain ⟨w1, hw1⟩ : ∃ w1, (w.alloc (.cells #[.int .i64 o.mss, .bool o.permit, .bool o.ts, .int .u32 o.val, .int .u32 o.ecr, .bool o.hs, .int .i64 o.scale, .slice a0 n cap] 25)) = w1 := ⟨_, rfl⟩
  rw [hw1] at hC hbox hbl1 hb1 ⊢
  clear hw1
  have z1 := hb1.size
  refine hC.mono ?_
  rintro e w2 ⟨rfl, h2⟩
  have hbox2 := hbox.keep (Kept.of_below h2 (Nat.le_refl _) []) (by simp)
  have hbl2 := hbl1.later h2
  have hb2 := hb1.trans (h2.mono z1)
  obtain ⟨B, hB⟩ : ∃ B, w.heap.size = B := ⟨_, rfl⟩
  obtain ⟨BS, hBS⟩ : ∃ BS, w2.heap.size = BS := ⟨_, rfl⟩
  rw [hB] at hbox2 ⊢
  have hBlt : B < BS := by have := hbox2.lt; omega
  have hwB : w.heap.size ≤ BS := by omega
  have HBS := Lib.hid hBS
  have HBE := Lib.hid hB
  have hcell : ∀ wx : World, Below BS w2 wx → OptAt wx B o a0 n cap := fun wx hb => hbox2.keep (Kept.of_below hb (by rw [HBS.out]; exact Nat.le_refl _) []) (by simp)
  have hblx : ∀ wx : World, Below BS w2 wx → BlA wx a0 n cap o.bl := fun wx hb => hbl2.later (by rw [HBS.out]; exact hb)
  have HCELL := Lib.hid hcell
  have HBLX := Lib.hid hblx
  obtain ⟨c0, c1, c2, c3, c4, c5, c6, c7⟩ := hbox2
  clear hC hbox hbl1 hb1 h2 hB hBS hcell hblx z1
  obtain ⟨bp, hbp⟩ : ∃ b, o.permit = b := ⟨_, rfl⟩
  obtain ⟨bt, hbt⟩ : ∃ b, o.ts = b := ⟨_, rfl⟩
  obtain ⟨bh, hbh⟩ : ∃ b, o.hs = b := ⟨_, rfl⟩
  have HBP := Lib.hid hbp
  have HBT := Lib.hid hbt
  have HBH := Lib.hid hbh
  rw [hbp, hbt, hbh]
  clear hbp hbt hbh c0 c1 c2 c3 c4 c5 c6 c7
  have hB0 : Below BS w2 w2 := Below.refl _ _
  have hz2' : BS ≤ w2.heap.size := by rw [HBS.out]; exact Nat.le_refl _
  go_upto_region 4 with (fail)
  go_cut [5] (fun s5 wx => ∃ (a : Option Addr) (c m : Nat), s5 = .slice a m c ∧ m ≤ 0 ∧ Hid ((([] : List Int)).length = m) ∧ wx.ownsRow BS 5 1 (.slice a m c) m (ints .u8 (([] : List Int))) ∧ Below BS w2 wx)
  case first =>
    go_wp2_with fail
    go_meet
    exact ⟨none, 0, 0, rfl, Nat.le_refl _, Lib.hid rfl, World.ownsRow_nil _ _ _ _, hB0⟩
  case rest =>
    obtain ⟨a, c, m, rfl, hm60, HM, own, hB⟩ := hcut
    obtain ⟨W, hW⟩ : ∃ W, wc = W := ⟨_, rfl⟩
    rw [hW] at own hB ⊢
    clear hW
    obtain ⟨L, hL⟩ : ∃ L, ([] : List Int) = L := ⟨_, rfl⟩
    rw [hL] at HM own
    have HL1 := Lib.hid hL
    clear hL
    have z0 := hB.size
    rw [HBS.out] at z0
    obtain ⟨c0, c1, c2, c3, c4, c5, c6, c7⟩ := HCELL.out _ hB
    rw [HBP.out] at c1
    rw [HBT.out] at c2
    rw [HBH.out] at c5
    clear hB0 hz2'
    go_upto_if 14 with (fail)
    go_cut [5] (fun s5 wx => ∃ (a : Option Addr) (c m : Nat), s5 = .slice a m c ∧ m ≤ 4 ∧ Hid ((L ++ p1 o).length = m) ∧ wx.ownsRow BS 5 1 (.slice a m c) m (ints .u8 (L ++ p1 o)) ∧ Below BS w2 wx)
    case first =>
     by_cases hm : o.mss = 0
     · have hm' : (o.mss != 0) = false := by simp [hm]
       have e : Hid (p1 o = []) := Lib.hid (by simp [p1, hm])
       have HMS := Lib.hid hm
       clear hm
       go_wp2_with fail
       go_meet
       exact ⟨a, c, m, rfl, by omega, by rw [e.out, List.append_nil]; exact HM, by rw [e.out, List.append_nil]; exact own, hB⟩
     · have hm' : (o.mss != 0) = true := by simp [hm]
       have e : Hid (p1 o = [2, 4] ++ two o.mss) := Lib.hid (by
         unfold p1
         rw [if_neg hm, show o.mss % 65536 = o.mss by omega])
       have HMS := Lib.hid hm
       clear hm
       have HNB := Lib.hid (by2 o.mss hmss)
       have HW32 : Hid (IntKind.u32.wrap o.mss = o.mss) := Lib.hid (IntWalk.u32_in _ (by omega))
       go_wp2_with fail
       have ownD := ((Kept.refl [] W).drew).own (by simp) own
       have hBD := hB.drew
       have z0D : BS ≤ W.drew.heap.size := z0
       go_region_held3 (fun w' => w'.cell? ⟨B, 0, none⟩ = some (.int .i64 o.mss)) (first | go_keep | exact cell_later hbd (by assumption) | assumption | exact (hg4.cell_far ⟨B, 0, none⟩ (show B < _ by first | omega | (simp; omega)) (by intro e; first | (have h1 : BS ≤ B := (own3.lt _ e.symm).1; omega) | (have h1 : BS ≤ B := (ownC.lt _ e.symm).1; omega))).trans (by assumption) | exact (hg3.cell_far ⟨B, 0, none⟩ (show B < _ by first | omega | (simp; omega)) (by intro e; have h1 : BS ≤ B := (ownD.lt _ e.symm).1; omega)).trans (by assumption)) ((first | (go_at_call 48; rw [HW32.out]; refine (number_ref o.mss 2 _ (by omega) (by omega)).mono ?_; rintro e wd ⟨vn, rfl, hnv, hbd⟩; rw [HNB.out] at hnv; obtain ⟨av, cv, hv, hsv, hbv⟩ := sl_of_own hnv; subst hv; have hlv := hnv.lt; first | (have ownC := ownB hbd own3; have hBC := hB3.trans (hbd.mono z3); have zC : BS ≤ wd.heap.size := (by rw [← HBS.out]; exact hBC.size)) | (have ownC := ownB hbd (ownD.alloc (.cells (ints .u8 [2, 4]).toArray 5)); have hBC := (hBD.alloc z0D (.cells (ints .u8 [2, 4]).toArray 5)).trans (hbd.mono (by simp; omega)); have zC : BS ≤ wd.heap.size := (by rw [← HBS.out]; exact hBC.size); have hsl2 := (sl_new .u8 5 W.drew [2, 4] (by simp [maxLen])).later hbd) | (have ownC := ownB hbd ownD; have hBC := hBD.trans (hbd.mono z0D); have zC : BS ≤ wd.heap.size := (by rw [← HBS.out]; exact hBC.size))) | (refine step_append_any _ rfl (.tmp 17) (.tmp 21) 26 26 rfl BS 5 i0 (.int .u8 0) 1 Try.underlying26 hi hz0 hz1 hz2 rfl (.slice a3 (m + 2) c3) (m + 2) (ints .u8 (L ++ [2, 4])) rfl (own3) (.slice av 2 cv) rfl (2) (ints .u8 (two o.mss)) (hsv3.src Try.underlying26) (by unfold maxLen; omega) (by omega) (z3) ?_; intro a4 c4 w4 own4 hg4 hat4; have hB4 := hB3.grown hg4 z3 (fun j hj => (own3.lt j hj).1); rw [← ints_append] at own4) | (refine step_append_any _ rfl (.tmp 17) (.tmp 21) 26 26 rfl BS 5 i0 (.int .u8 0) 1 Try.underlying26 hi hz0 hz1 hz2 rfl (.slice a3 (m + 2) c3) (m + 2) (ints .u8 (L ++ [2, 4])) rfl (ownC) (.slice av 2 cv) rfl (2) (ints .u8 (two o.mss)) (hsv.src Try.underlying26) (by unfold maxLen; omega) (by omega) (zC) ?_; intro a4 c4 w4 own4 hg4 hat4; have hB4 := hBC.grown hg4 zC (fun j hj => (ownC.lt j hj).1); rw [← ints_append] at own4) | (refine step_append_any _ rfl (.tmp 15) (.tmp 16) 26 26 rfl BS 5 i0 (.int .u8 0) 1 Try.underlying26 hi hz0 hz1 hz2 rfl (.slice a m c) (m) (ints .u8 L) rfl (ownC.alloc _) (.slice (some ⟨wd.heap.size, 0, none⟩) 2 2) rfl (2) (ints .u8 [2, 4]) ((sl_new .u8 5 wd [2, 4] (by simp [maxLen])).src Try.underlying26) (by unfold maxLen; omega) (by omega) (by simp; omega) ?_; intro a3 c3 w3 own3 hg3 hat3; have hB3 := (hBC.alloc zC _).grown hg3 (by simp; omega) (fun j hj => (ownC.lt j hj).1); have z3 : BS ≤ w3.heap.size := (by rw [← HBS.out]; exact hB3.size); have hsv3 := srcGrown (hsv.later ((Below.refl _ _).alloc (Nat.le_refl _) _)) hg3 (fun x hx e => by have h1 := (hlv _ (hbv x hx)).1; have h2 := (ownD.lt _ e.symm).2; omega); rw [← ints_append] at own3) | (refine step_append_any _ rfl (.tmp 15) (.tmp 16) 26 26 rfl BS 5 i0 (.int .u8 0) 1 Try.underlying26 hi hz0 hz1 hz2 rfl (.slice a m c) (m) (ints .u8 L) rfl (ownC) (.slice (some ⟨W.heap.size, 0, none⟩) 2 2) rfl (2) (ints .u8 [2, 4]) (hsl2.src Try.underlying26) (by unfold maxLen; omega) (by omega) (zC) ?_; intro a3 c3 w3 own3 hg3 hat3; have hB3 := hBC.grown hg3 zC (fun j hj => (ownC.lt j hj).1); have z3 : BS ≤ w3.heap.size := (by rw [← HBS.out]; exact hB3.size); have hsv3 := srcGrown hsv hg3 (fun x hx e => by have h1 := (hlv _ (hbv x hx)).1; have h2 := (ownD.lt _ e.symm).2; simp at h1; omega); rw [← ints_append] at own3) | (refine step_append_any _ rfl (.tmp 15) (.tmp 16) 26 26 rfl BS 5 i0 (.int .u8 0) 1 Try.underlying26 hi hz0 hz1 hz2 rfl (.slice a m c) (m) (ints .u8 L) rfl (ownD.alloc _) (.slice (some ⟨W.heap.size, 0, none⟩) 2 2) rfl (2) (ints .u8 [2, 4]) ((sl_new .u8 5 W.drew [2, 4] (by simp [maxLen])).src Try.underlying26) (by unfold maxLen; omega) (by omega) (by simp; omega) ?_; intro a3 c3 w3 own3 hg3 hat3; have hB3 := (hBD.alloc z0D _).grown hg3 (by simp; omega) (fun j hj => (ownD.lt j hj).1); have z3 : BS ≤ w3.heap.size := (by rw [← HBS.out]; exact hB3.size); rw [← ints_append] at own3)))
       all_goals
         go_wp2_with fail
         go_meet
         exact ⟨a4, c4, m + 2 + 2, rfl, by omega, Lib.hid (by rw [e.out, ← List.append_assoc]; simp [HM.out, two]), by rw [e.out, ← List.append_assoc]; exact own4, hB4⟩
    case rest =>
     obtain ⟨a, c, m, rfl, hm60, HM, own, hB⟩ := hcut
     obtain ⟨W, hW⟩ : ∃ W, wc = W := ⟨_, rfl⟩
     rw [hW] at own hB ⊢
     clear hW
     obtain ⟨M1, hL⟩ : ∃ M1, L ++ p1 o = M1 := ⟨_, rfl⟩
     rw [hL] at HM own
     have HL2 := Lib.hid hL
     clear hL
     have z0 := hB.size
     rw [HBS.out] at z0
     obtain ⟨c0, c1, c2, c3, c4, c5, c6, c7⟩ := HCELL.out _ hB
     rw [HBP.out] at c1
     rw [HBT.out] at c2
     rw [HBH.out] at c5
     go_upto_if 24 with (fail)
     go_cut [5] (fun s5 wx => ∃ (a : Option Addr) (c m : Nat), s5 = .slice a m c ∧ m ≤ 6 ∧ Hid ((M1 ++ p2 o).length = m) ∧ wx.ownsRow BS 5 1 (.slice a m c) m (ints .u8 (M1 ++ p2 o)) ∧ Below BS w2 wx)
     case first =>
      cases bp with
      | false =>
       have hm := HBP.out
       have e : Hid (p2 o = []) := Lib.hid (by simp [p2, hm])
       have HMS := Lib.hid hm
       clear hm
       go_wp2_with fail
       go_meet
       exact ⟨a, c, m, rfl, by omega, by rw [e.out, List.append_nil]; exact HM, by rw [e.out, List.append_nil]; exact own, hB⟩
      | true =>
       have hm := HBP.out
       have e : Hid (p2 o = [4, 2]) := Lib.hid (by simp [p2, hm])
       have HMS := Lib.hid hm
       clear hm
       go_wp2_with (at_builtin; refine wpList_append_any _ rfl (.tmp 25) (.tmp 26) 26 26 rfl BS 5 i0 (.int .u8 0) 1 Try.underlying26 hi hz0 hz1 hz2 rfl (.slice a m c) (m) (ints .u8 (M1)) rfl (own.alloc _) (.slice (some ⟨W.heap.size, 0, none⟩) 2 2) rfl (2) (ints .u8 [4, 2]) ((sl_new .u8 5 W [4, 2] (by simp [maxLen])).src Try.underlying26) (by unfold maxLen; omega) (by omega) (by simp; omega) ?_; intro a4 c4 w4 own4 hg4 hat4; have hB4 := (hB.alloc z0 _).grown hg4 (by simp; omega) (fun j hj => (own.lt j hj).1); rw [← ints_append] at own4)
       go_meet
       exact ⟨a4, c4, m + 2, rfl, by omega, Lib.hid (by rw [e.out]; simp [HM.out]), by rw [e.out]; exact own4, hB4⟩
     case rest =>
      obtain ⟨a, c, m, rfl, hm60, HM, own, hB⟩ := hcut
      obtain ⟨W, hW⟩ : ∃ W, wc = W := ⟨_, rfl⟩
      rw [hW] at own hB ⊢
      clear hW
      obtain ⟨M2, hL⟩ : ∃ M2, M1 ++ p2 o = M2 := ⟨_, rfl⟩
      rw [hL] at HM own
      have HL3 := Lib.hid hL
      clear hL
      have z0 := hB.size
      rw [HBS.out] at z0
      obtain ⟨c0, c1, c2, c3, c4, c5, c6, c7⟩ := HCELL.out _ hB
      rw [HBP.out] at c1
      rw [HBT.out] at c2
      rw [HBH.out] at c5
      go_upto_if 29 with (fail)
      go_cut [5] (fun s5 wx => ∃ (a : Option Addr) (c m : Nat), s5 = .slice a m c ∧ m ≤ 16 ∧ Hid ((M2 ++ p3 o).length = m) ∧ wx.ownsRow BS 5 1 (.slice a m c) m (ints .u8 (M2 ++ p3 o)) ∧ Below BS w2 wx)
      case first =>
       cases bt with
       | false =>
        have hm := HBT.out
        have e : Hid (p3 o = []) := Lib.hid (by simp [p3, hm])
        have HMS := Lib.hid hm
        clear hm
        go_wp2_with fail
        go_meet
        exact ⟨a, c, m, rfl, by omega, by rw [e.out, List.append_nil]; exact HM, by rw [e.out, List.append_nil]; exact own, hB⟩
       | true =>
        have hm := HBT.out
        have e : Hid (p3 o = [8, 10] ++ four o.val ++ four o.ecr) := Lib.hid (by simp [p3, hm])
        have HMS := Lib.hid hm
        clear hm
        have hv := hf.val
        have he := hf.ecr
        have HNB := Lib.hid (by4 o.val hv)
        have HNE := Lib.hid (by4 o.ecr he)
        go_wp2_with fail
        have ownD := ((Kept.refl [] W).drew).own (by simp) own
        have hBD := hB.drew
        have z0D : BS ≤ W.drew.heap.size := z0
        go_region_held3 (fun w' => w'.cell? ⟨B, 3, none⟩ = some (.int .u32 o.val)) (first | go_keep | exact cell_later hbd (by assumption) | assumption | exact (hg4.cell_far ⟨B, 3, none⟩ (show B < _ by first | omega | (simp; omega)) (by intro e; first | (have h1 : BS ≤ B := (own3.lt _ e.symm).1; omega) | (have h1 : BS ≤ B := (ownC.lt _ e.symm).1; omega))).trans (by assumption) | exact (hg3.cell_far ⟨B, 3, none⟩ (show B < _ by first | omega | (simp; omega)) (by intro e; have h1 : BS ≤ B := (ownD.lt _ e.symm).1; omega)).trans (by assumption)) ((first | (go_at_call 48; refine (number_ref o.val 4 _ (by omega) (by omega)).mono ?_; rintro e wd ⟨vn, rfl, hnv, hbd⟩; rw [HNB.out] at hnv; obtain ⟨av, cv, hv, hsv, hbv⟩ := sl_of_own hnv; subst hv; have hlv := hnv.lt; first | (have ownC := ownB hbd own3; have hBC := hB3.trans (hbd.mono z3); have zC : BS ≤ wd.heap.size := (by rw [← HBS.out]; exact hBC.size)) | (have ownC := ownB hbd (ownD.alloc (.cells (ints .u8 [8, 10]).toArray 5)); have hBC := (hBD.alloc z0D (.cells (ints .u8 [8, 10]).toArray 5)).trans (hbd.mono (by simp; omega)); have zC : BS ≤ wd.heap.size := (by rw [← HBS.out]; exact hBC.size); have hsl2 := (sl_new .u8 5 W.drew [8, 10] (by simp [maxLen])).later hbd) | (have ownC := ownB hbd ownD; have hBC := hBD.trans (hbd.mono z0D); have zC : BS ≤ wd.heap.size := (by rw [← HBS.out]; exact hBC.size))) | (refine step_append_any _ rfl (.tmp 32) (.tmp 35) 26 26 rfl BS 5 i0 (.int .u8 0) 1 Try.underlying26 hi hz0 hz1 hz2 rfl (.slice a3 (m + 2) c3) (m + 2) (ints .u8 (M2 ++ [8, 10])) rfl (own3) (.slice av 4 cv) rfl (4) (ints .u8 (four o.val)) (hsv3.src Try.underlying26) (by unfold maxLen; omega) (by omega) (z3) ?_; intro a4 c4 w4 own4 hg4 hat4; have hB4 := hB3.grown hg4 z3 (fun j hj => (own3.lt j hj).1); rw [← ints_append] at own4) | (refine step_append_any _ rfl (.tmp 32) (.tmp 35) 26 26 rfl BS 5 i0 (.int .u8 0) 1 Try.underlying26 hi hz0 hz1 hz2 rfl (.slice a3 (m + 2) c3) (m + 2) (ints .u8 (M2 ++ [8, 10])) rfl (ownC) (.slice av 4 cv) rfl (4) (ints .u8 (four o.val)) (hsv.src Try.underlying26) (by unfold maxLen; omega) (by omega) (zC) ?_; intro a4 c4 w4 own4 hg4 hat4; have hB4 := hBC.grown hg4 zC (fun j hj => (ownC.lt j hj).1); rw [← ints_append] at own4) | (refine step_append_any _ rfl (.tmp 30) (.tmp 31) 26 26 rfl BS 5 i0 (.int .u8 0) 1 Try.underlying26 hi hz0 hz1 hz2 rfl (.slice a m c) (m) (ints .u8 M2) rfl (ownC.alloc _) (.slice (some ⟨wd.heap.size, 0, none⟩) 2 2) rfl (2) (ints .u8 [8, 10]) ((sl_new .u8 5 wd [8, 10] (by simp [maxLen])).src Try.underlying26) (by unfold maxLen; omega) (by omega) (by simp; omega) ?_; intro a3 c3 w3 own3 hg3 hat3; have hB3 := (hBC.alloc zC _).grown hg3 (by simp; omega) (fun j hj => (ownC.lt j hj).1); have z3 : BS ≤ w3.heap.size := (by rw [← HBS.out]; exact hB3.size); have hsv3 := srcGrown (hsv.later ((Below.refl _ _).alloc (Nat.le_refl _) _)) hg3 (fun x hx e => by have h1 := (hlv _ (hbv x hx)).1; have h2 := (ownD.lt _ e.symm).2; omega); rw [← ints_append] at own3) | (refine step_append_any _ rfl (.tmp 30) (.tmp 31) 26 26 rfl BS 5 i0 (.int .u8 0) 1 Try.underlying26 hi hz0 hz1 hz2 rfl (.slice a m c) (m) (ints .u8 M2) rfl (ownC) (.slice (some ⟨W.heap.size, 0, none⟩) 2 2) rfl (2) (ints .u8 [8, 10]) (hsl2.src Try.underlying26) (by unfold maxLen; omega) (by omega) (zC) ?_; intro a3 c3 w3 own3 hg3 hat3; have hB3 := hBC.grown hg3 zC (fun j hj => (ownC.lt j hj).1); have z3 : BS ≤ w3.heap.size := (by rw [← HBS.out]; exact hB3.size); have hsv3 := srcGrown hsv hg3 (fun x hx e => by have h1 := (hlv _ (hbv x hx)).1; have h2 := (ownD.lt _ e.symm).2; simp at h1; omega); rw [← ints_append] at own3) | (refine step_append_any _ rfl (.tmp 30) (.tmp 31) 26 26 rfl BS 5 i0 (.int .u8 0) 1 Try.underlying26 hi hz0 hz1 hz2 rfl (.slice a m c) (m) (ints .u8 M2) rfl (ownD.alloc _) (.slice (some ⟨W.heap.size, 0, none⟩) 2 2) rfl (2) (ints .u8 [8, 10]) ((sl_new .u8 5 W.drew [8, 10] (by simp [maxLen])).src Try.underlying26) (by unfold maxLen; omega) (by omega) (by simp; omega) ?_; intro a3 c3 w3 own3 hg3 hat3; have hB3 := (hBD.alloc z0D _).grown hg3 (by simp; omega) (fun j hj => (ownD.lt j hj).1); have z3 : BS ≤ w3.heap.size := (by rw [← HBS.out]; exact hB3.size); rw [← ints_append] at own3)))
        all_goals
          obtain ⟨d0, d1, d2, d3, d4, d5, d6, d7⟩ := HCELL.out _ hB4
          go_wp2_with (first | (go_at_call 48; refine (number_ref o.ecr 4 _ (by omega) (by omega)).mono ?_; rintro e wd7 ⟨vn7, rfl, hnv7, hbd7⟩; rw [HNE.out] at hnv7; obtain ⟨av7, cv7, hv7, hsv7, hbv7⟩ := sl_of_own hnv7; subst hv7; have ownC7 := ownB hbd7 own4; have hBC7 := hB4.trans (hbd7.mono (by have := hB4.size; rw [HBS.out] at this; exact this)); have zC7 := hBC7.size) | (at_builtin; refine wpList_append_any _ rfl (.tmp 37) (.tmp 40) 26 26 rfl BS 5 i0 (.int .u8 0) 1 Try.underlying26 hi hz0 hz1 hz2 rfl (.slice a4 (m + 2 + 4) c4) (m + 2 + 4) (ints .u8 (M2 ++ [8, 10] ++ four o.val)) rfl (ownC7) (.slice av7 4 cv7) rfl (4) (ints .u8 (four o.ecr)) (hsv7.src Try.underlying26) (by unfold maxLen; omega) (by omega) (by rw [HBS.out] at zC7; exact zC7) ?_; intro a8 c8 w8 own8 hg8 hat8; have hB8 := hBC7.grown hg8 (by rw [HBS.out] at zC7; exact zC7) (fun j hj => (ownC7.lt j hj).1); rw [← ints_append] at own8))
          go_meet
          exact ⟨a8, c8, m + 2 + 4 + 4, rfl, by omega, Lib.hid (by rw [e.out, ← List.append_assoc, ← List.append_assoc]; simp [HM.out, four]), by rw [e.out, ← List.append_assoc, ← List.append_assoc]; exact own8, hB8⟩
      case rest =>
       obtain ⟨a, c, m, rfl, hm60, HM, own, hB⟩ := hcut
       obtain ⟨W, hW⟩ : ∃ W, wc = W := ⟨_, rfl⟩
       rw [hW] at own hB ⊢
       clear hW
       obtain ⟨M3, hL⟩ : ∃ M3, M2 ++ p3 o = M3 := ⟨_, rfl⟩
       rw [hL] at HM own
       have HL4 := Lib.hid hL
       clear hL
       have z0 := hB.size
       rw [HBS.out] at z0
       obtain ⟨c0, c1, c2, c3, c4, c5, c6, c7⟩ := HCELL.out _ hB
       rw [HBP.out] at c1
       rw [HBT.out] at c2
       rw [HBH.out] at c5
       go_upto_if 43 with (fail)
       go_cut [5] (fun s5 wx => ∃ (a : Option Addr) (c m : Nat), s5 = .slice a m c ∧ m ≤ 19 ∧ Hid ((M3 ++ p4 o).length = m) ∧ wx.ownsRow BS 5 1 (.slice a m c) m (ints .u8 (M3 ++ p4 o)) ∧ Below BS w2 wx)
       case first =>
        cases bh with
        | false =>
         have hm := HBH.out
         have e : Hid (p4 o = []) := Lib.hid (by simp [p4, hm])
         have HMS := Lib.hid hm
         clear hm
         go_wp2_with fail
         go_meet
         exact ⟨a, c, m, rfl, by omega, by rw [e.out, List.append_nil]; exact HM, by rw [e.out, List.append_nil]; exact own, hB⟩
        | true =>
         have hm := HBH.out
         have e : Hid (p4 o = [3, 3, o.scale]) := Lib.hid (by
           unfold p4
           rw [hm, show o.scale % 256 = o.scale by omega]
           rfl)
         have HMS := Lib.hid hm
         clear hm
         go_wp2_with (at_builtin; refine wpList_append_any _ rfl (.tmp 44) (.tmp 48) 26 26 rfl BS 5 i0 (.int .u8 0) 1 Try.underlying26 hi hz0 hz1 hz2 rfl (.slice a m c) (m) (ints .u8 (M3)) rfl (own.alloc _) (.slice (some ⟨W.heap.size, 0, none⟩) 3 3) rfl (3) (ints .u8 [3, 3, o.scale]) ((sl_new .u8 5 W [3, 3, o.scale] (by simp [maxLen])).src Try.underlying26) (by unfold maxLen; omega) (by omega) (by simp; omega) ?_; intro a4 c4 w4 own4 hg4 hat4; have hB4 := (hB.alloc z0 _).grown hg4 (by simp; omega) (fun j hj => (own.lt j hj).1); rw [← ints_append] at own4)
         go_meet
         exact ⟨a4, c4, m + 3, rfl, by omega, Lib.hid (by rw [e.out]; simp [HM.out]), by rw [e.out]; exact own4, hB4⟩
       case rest =>
        obtain ⟨a, c, m, rfl, hm60, HM, own, hB⟩ := hcut
        obtain ⟨W, hW⟩ : ∃ W, wc = W := ⟨_, rfl⟩
        rw [hW] at own hB ⊢
        clear hW
        obtain ⟨M4, hL⟩ : ∃ M4, M3 ++ p4 o = M4 := ⟨_, rfl⟩
        rw [hL] at HM own
        have HL5 := Lib.hid hL
        clear hL
        have z0 := hB.size
        rw [HBS.out] at z0
        obtain ⟨c0, c1, c2, c3, c4, c5, c6, c7⟩ := HCELL.out _ hB
        rw [HBP.out] at c1
        rw [HBT.out] at c2
        rw [HBH.out] at c5
        go_upto_if 53 with (fail)
        go_cut [5] (fun s5 wx => ∃ (a : Option Addr) (c m : Nat), s5 = .slice a m c ∧ m ≤ 53 ∧ Hid ((M4 ++ p5 o).length = m) ∧ wx.ownsRow BS 5 1 (.slice a m c) m (ints .u8 (M4 ++ p5 o)) ∧ Below BS w2 wx)
        case first =>
         by_cases hm : n = 0
         · have hm' : ¬ (0 : Int) < (n : Int) := by omega
           have e : Hid (p5 o = []) := Lib.hid (by unfold p5; rw [if_pos (by rw [HLEN.out]; exact hm)])
           have HMS := Lib.hid hm
           clear hm
           go_wp2_with fail
           go_meet
           exact ⟨a, c, m, rfl, by omega, by rw [e.out, List.append_nil]; exact HM, by rw [e.out, List.append_nil]; exact own, hB⟩
         · have hm' : (0 : Int) < (n : Int) := by omega
           have e : Hid (p5 o = [5, 2 + 8 * (n : Int)] ++ blB o.bl) := Lib.hid (by unfold p5; rw [if_neg (by rw [HLEN.out]; exact hm), HLEN.out])
           have hn0 : 0 < n := by omega
           have HFB := Lib.hid hf.bl
           clear hm
           obtain ⟨b, off, ha0, hcz⟩ := (HBLX.out _ hB).cells hn0
           subst ha0
           clear hcz
           go_wp2_with (at_builtin; refine wpList_append_any _ rfl (.tmp 54) (.tmp 61) 26 26 rfl BS 5 i0 (.int .u8 0) 1 Try.underlying26 hi hz0 hz1 hz2 rfl (.slice a m c) (m) (ints .u8 (M4)) rfl (own.alloc _) (.slice (some ⟨W.heap.size, 0, none⟩) 2 2) rfl (2) (ints .u8 [5, 2 + 8 * (n : Int)]) ((sl_new .u8 5 W [5, 2 + 8 * (n : Int)] (by simp [maxLen])).src Try.underlying26) (by unfold maxLen; omega) (by omega) (by simp; omega) ?_; intro a4 c4 w4 own4 hg4 hat4; have hB4 := (hB.alloc z0 _).grown hg4 (by simp; omega) (fun j hj => (own.lt j hj).1); rw [← ints_append] at own4)
           have e4 := hB4
           go_loopw [5, 6] (fun v i wr => ∃ (k : Nat) (a : Option Addr) (c q : Nat), k ≤ n ∧ i = .int .i64 (k : Nat) ∧ v = .slice a q c ∧ Hid (q = m + 2 + 8 * k) ∧ Hid ((M4 ++ [5, 2 + 8 * (n : Int)] ++ blB (o.bl.take k)).length = q) ∧ wr.ownsRow BS 5 1 (.slice a q c) q (ints .u8 (M4 ++ [5, 2 + 8 * (n : Int)] ++ blB (o.bl.take k))) ∧ Below BS w2 wr) (fun _ i _ => n - (intOf i).toNat)
           case atStart => exact ⟨0, a4, c4, m + 2, Nat.zero_le _, rfl, rfl, Lib.hid (by omega), Lib.hid (by simp [HM.out, blB]), by simpa [blB] using own4, e4⟩
           case round =>
             obtain ⟨k, ak, ck, q, hk, rfl, rfl, HQ, HQL, ownk, hBk⟩ := hrel
             have hq60 : q ≤ m + 2 + 8 * n := by have := HQ.out; omega
             clear own4 hB4 e4 own hB
             obtain ⟨d0, d1, d2, d3, d4, d5, d6, d7⟩ := HCELL.out _ hBk
             rw [HBP.out] at d1
             rw [HBT.out] at d2
             rw [HBH.out] at d5
             by_cases hlt : k < n
             · obtain ⟨bb, oo, hbo, hcc⟩ := (HBLX.out _ hBk).cells hn0
               injection hbo with hbo
               injection hbo with hbo1 hbo2
               subst hbo1 hbo2
               obtain ⟨g1, g2⟩ := hcc k hlt
               have hx : (0 ≤ (o.bl.getD k (0, 0)).1 ∧ (o.bl.getD k (0, 0)).1 ≤ 4294967295) ∧ (0 ≤ (o.bl.getD k (0, 0)).2 ∧ (o.bl.getD k (0, 0)).2 ≤ 4294967295) := by
                 have : o.bl.getD k (0, 0) ∈ o.bl := by
                   rw [show o.bl.getD k (0, 0) = o.bl[k]'(by rw [HLEN.out]; exact hlt) from by simp [List.getD, HLEN.out, hlt]]
                   exact List.getElem_mem _
                 exact HFB.out _ this
               have HS : Hid (blB (o.bl.take (k + 1)) = blB (o.bl.take k) ++ four (o.bl.getD k (0, 0)).1 ++ four (o.bl.getD k (0, 0)).2) := Lib.hid (by
                 rw [← blB_snoc]
                 congr 1
                 rw [List.take_succ_eq_append_getElem (by rw [HLEN.out]; exact hlt)]
                 simp only [List.getD, List.getElem?_eq_getElem (show k < o.bl.length by rw [HLEN.out]; exact hlt), Option.getD_some])
               obtain ⟨x, hxe⟩ : ∃ x, (o.bl.getD k (0, 0)).1 = x := ⟨_, rfl⟩
               obtain ⟨y, hye⟩ : ∃ y, (o.bl.getD k (0, 0)).2 = y := ⟨_, rfl⟩
               have HXE := Lib.hid hxe
               have HYE := Lib.hid hye
               rw [hxe, hye] at hx HS
               rw [hxe] at g1
               rw [hye] at g2
               obtain ⟨hx1, hx2⟩ := hx
               have HNX := Lib.hid (by4 x hx1)
               have HNY := Lib.hid (by4 y hx2)
               have hkI : (k : Int) < (n : Int) := by omega
               clear hcc hxe hye
               go_wp2_with (first | (have hgX := HNX; clear hgX; (go_at_call 48; refine (number_ref x 4 _ (by omega) (by omega)).mono ?_; rintro e wd7 ⟨vn7, rfl, hnv7, hbd7⟩; rw [HNX.out] at hnv7; obtain ⟨av7, cv7, hv7, hsv7, hbv7⟩ := sl_of_own hnv7; subst hv7; have ownC7 := ownB hbd7 ownk; have hBC7 := hBk.trans (hbd7.mono (by have := hBk.size; rw [HBS.out] at this; exact this)); have zC7 := hBC7.size)) | (at_builtin; refine wpList_append_any _ rfl (.tmp 70) (.tmp 77) 26 26 rfl BS 5 i0 (.int .u8 0) 1 Try.underlying26 hi hz0 hz1 hz2 rfl (.slice ak q ck) (q) (ints .u8 (M4 ++ [5, 2 + 8 * (n : Int)] ++ blB (o.bl.take k))) rfl (ownC7) (.slice av7 4 cv7) rfl (4) (ints .u8 (four x)) (hsv7.src Try.underlying26) (by unfold maxLen; omega) (by omega) (by rw [HBS.out] at zC7; exact zC7) ?_; intro a8 c8 w8 own8 hg8 hat8; have hB8 := hBC7.grown hg8 (by rw [HBS.out] at zC7; exact zC7) (fun j hj => (ownC7.lt j hj).1); rw [← ints_append] at own8; clear HNX; obtain ⟨f0, f1, f2, f3, f4, f5, f6, f7⟩ := HCELL.out _ hB8; obtain ⟨b9, o9, hbo9, hc9⟩ := (HBLX.out _ hB8).cells hn0; injection hbo9 with hbo9; injection hbo9 with hbo91 hbo92; subst hbo91 hbo92; obtain ⟨g3, g4⟩ := hc9 k hlt; rw [HYE.out] at g4; clear hc9 g3 g1 g2 d0 d1 d2 d3 d4 d5 d6 d7 ownk))
               go_wp2_with (first | (have hgY := HNY; clear hgY; (go_at_call 48; refine (number_ref y 4 _ (by omega) (by omega)).mono ?_; rintro e wd17 ⟨vn17, rfl, hnv17, hbd17⟩; rw [HNY.out] at hnv17; obtain ⟨av17, cv17, hv17, hsv17, hbv17⟩ := sl_of_own hnv17; subst hv17; have ownC17 := ownB hbd17 own8; have hBC17 := hB8.trans (hbd17.mono (by have := hB8.size; rw [HBS.out] at this; exact this)); have zC17 := hBC17.size)) | (at_builtin; refine wpList_append_any _ rfl (.tmp 79) (.tmp 86) 26 26 rfl BS 5 i0 (.int .u8 0) 1 Try.underlying26 hi hz0 hz1 hz2 rfl (.slice a8 (q + 4) c8) (q + 4) (ints .u8 (M4 ++ [5, 2 + 8 * (n : Int)] ++ blB (o.bl.take k) ++ four x)) rfl (ownC17) (.slice av17 4 cv17) rfl (4) (ints .u8 (four y)) (hsv17.src Try.underlying26) (by unfold maxLen; omega) (by omega) (by rw [HBS.out] at zC17; exact zC17) ?_; intro a18 c18 w18 own18 hg18 hat18; have hB18 := hBC17.grown hg18 (by rw [HBS.out] at zC17; exact zC17) (fun j hj => (ownC17.lt j hj).1); rw [← ints_append] at own18; clear HNY))
               go_roundw
               case rel => exact ⟨k + 1, a18, c18, q + 4 + 4, by omega, by go_num, rfl, Lib.hid (by have := HQ.out; omega), Lib.hid (by rw [HS.out, ← List.append_assoc, ← List.append_assoc, List.length_append, List.length_append, HQL.out]; simp [four]), by rw [HS.out, ← List.append_assoc, ← List.append_assoc]; exact own18, hB18⟩
               case measure => simp [intOf]; omega
             · obtain rfl : k = n := by omega
               have ht : o.bl.take k = o.bl := List.take_of_length_le (by rw [HLEN.out]; exact Nat.le_refl _)
               have HT := Lib.hid ht
               clear ht
               go_wp2_with fail
               go_meet
               exact ⟨ak, ck, q, rfl, by omega, by rw [e.out, ← List.append_assoc]; rw [HT.out] at HQL; exact HQL, by rw [e.out, ← List.append_assoc]; rw [HT.out] at ownk; exact ownk, hBk⟩
        case rest =>
         obtain ⟨a, c, m, rfl, hm60, HM, own, hB⟩ := hcut
         obtain ⟨W, hW⟩ : ∃ W, wc = W := ⟨_, rfl⟩
         rw [hW] at own hB ⊢
         clear hW
         obtain ⟨M5, hL⟩ : ∃ M5, M4 ++ p5 o = M5 := ⟨_, rfl⟩
         rw [hL] at HM own
         have HL6 := Lib.hid hL
         clear hL
         have z0 := hB.size
         rw [HBS.out] at z0
         obtain ⟨c0, c1, c2, c3, c4, c5, c6, c7⟩ := HCELL.out _ hB
         rw [HBP.out] at c1
         rw [HBT.out] at c2
         rw [HBH.out] at c5
         have hraw : raw o = M5 := by
           rw [← HL6.out, ← HL5.out, ← HL4.out, ← HL3.out, ← HL2.out, ← HL1.out]
           simp [raw]
         have HR := Lib.hid hraw
         clear hraw
         have HPD : Hid (pad M5 = enc o) := Lib.hid (by rw [← HR.out]; rfl)
         have hown0 := own
         go_wp2_with fail
         go_loopw [5] (fun v wr => ∃ (a : Option Addr) (c q : Nat) (L' : List Int), v = .slice a q c ∧ Hid (L'.length = q) ∧ Hid (pad L' = enc o) ∧ (q ≤ 53 ∨ padN q + q ≤ 56) ∧ wr.ownsRow BS 5 1 (.slice a q c) q (ints .u8 L') ∧ Below BS w2 wr) (fun v _ => padV v)
         case atStart => exact ⟨a, c, m, M5, rfl, HM, HPD, .inl hm60, own, hB⟩
         case round =>
           obtain ⟨ak, ck, q, L', rfl, HQL, HP, hq, ownk, hBk⟩ := hrel
           clear own hB hown0
           have zk := hBk.size
           rw [HBS.out] at zk
           have hq56 : q ≤ 56 := by unfold padN at hq; omega
           by_cases hmod : q % 4 = 0
           · have hm : (((q : Int) % 4) != 0) = false := by simp; omega
             go_wp2
             go_ret2
             have e : enc o = L' := by rw [← HP.out, pad_done L' (by rw [HQL.out]; exact hmod)]
             refine ⟨.slice ak q ck, rfl, ?_, hb2.trans (hBk.mono hwB)⟩
             rw [e, HQL.out]
             exact own_base ownk (fun g hg => by have := (ownk.lt g hg).1; omega)
           · have hm : (((q : Int) % 4) != 0) = true := by simp; omega
             have HMOD := Lib.hid hmod
             clear hmod
             go_wp2_with (at_builtin; refine wpList_append_any _ rfl (.tmp 92) (.tmp 93) 26 26 rfl BS 5 i0 (.int .u8 0) 1 Try.underlying26 hi hz0 hz1 hz2 rfl (.slice ak q ck) (q) (ints .u8 (L')) rfl (ownk.alloc _) (.slice (some ⟨wr.heap.size, 0, none⟩) 1 1) rfl (1) (ints .u8 [0]) ((sl_new .u8 5 wr [0] (by simp [maxLen])).src Try.underlying26) (by unfold maxLen; omega) (by omega) (by simp; omega) ?_; intro a4 c4 w4 own4 hg4 hat4; have hB4 := (hBk.alloc (by have := hBk.size; rw [HBS.out] at this; exact this) _).grown hg4 (by simp; omega) (fun j hj => (ownk.lt j hj).1); rw [← ints_append] at own4)
             go_roundw
             case rel => exact ⟨a4, c4, q + 1, L' ++ [0], rfl, Lib.hid (by rw [List.length_append, HQL.out]; rfl), Lib.hid (by rw [pad_step L' (by rw [HQL.out]; exact HMOD.out), HP.out]), by have := HMOD.out; unfold padN at *; omega, own4, hB4⟩
             case measure => have := HMOD.out; simp only [padV]; unfold padN; omega
end Go.Proofs.Ytdfenlagokndkaa.op
