/-
  The reference's Blocks.
-/
import Derived.Test.YtegfmjkngbnnfaaDupM
namespace Go.Proofs.Ytegfmjkngbnnfaa.dp
open Go.RowKit aid mem sq sp
attribute [local go_sem ↓] Go.wp_at_zero Go.wp_at_succ
set_option linter.unusedVariables false

theorem own_span1 (w : World) (d : Int × Int) : (w.alloc (.cells #[.int .i64 d.1, .int .i64 d.2] 26)).ownsRow w.heap.size 26 2 (.slice (some ⟨w.heap.size, 0, none⟩) 1 1) 1 (spCells [d]) :=
  ⟨rfl, .inr ⟨w.heap.size, 1, _, rfl, Nat.le_refl _, heap_alloc_new w _, Nat.le_refl _, by unfold maxLen; omega, rfl, rfl⟩⟩
theorem u32_m32 (n : Int) : IntKind.u32.wrap (m32 n) = m32 n := by
  have := m32_bd n
  show m32 n % 4294967296 = m32 n
  omega

/-- between two rounds of the reference's Blocks -/
def NRel (w1 : World) (first : Int) (LL : List (Int × Int)) (m : Nat) (u i : Value) (wr : World) : Prop :=
  ∃ (k : Nat) (v : Value), k ≤ m ∧ i = .int .i64 k ∧ u = v ∧ wr.ownsRow w1.heap.size 42 2 v ((LL.take k).foldl (putB first) []).length (bkCells ((LL.take k).foldl (putB first) [])) ∧ Below w1.heap.size w1 wr

set_option maxRecDepth 100000 in
set_option maxHeartbeats 3200000 in
theorem rblocks_any (first : Int) (d : Int × Int) (a : Option Addr) (n cap : Nat) (l : List (Int × Int)) (w : World) (hf : 0 ≤ first ∧ first ≤ 4294967295) (hd : SpI d) (hl : SlS w a n cap l) (hok : ∀ s ∈ l, SpI s) (hbig : (n + 1) * 16 ≤ 140737488355328) :
    Calls Try.prog 13 #[.int .u32 first, spV d, .slice a n cap] w (RetK (blocksP first d l) w) := by
  have hlen := hl.len
  obtain ⟨i0, hi, hz0, hz1, hz2⟩ := info_split info_span
  obtain ⟨j0, hj, hy0, hy1, hy2⟩ := info_split info_block
  have b1 := bal (w := w) (.cells #[.int .i64 d.1, .int .i64 d.2] 26)
  have d1 := sp_new w d
  have b2 := b1.alloc b1.size (.cells #[.int .i64 d.1, .int .i64 d.2] 26)
  have ho1 := own_base (base' := w.heap.size) (own_span1 (w.alloc (.cells #[.int .i64 d.1, .int .i64 d.2] 26)) d) (fun k hk => by cases hk; simp)
  simp only [World.size_alloc] at ho1
  have HO1 := Lib.hid ho1
  have HSL := Lib.hid (hl.later b2).src
  have HB2 := Lib.hid b2
  have c0 := d1.c0; have c1 := d1.c1
  have HB : Hid (blocksP first d l = (d :: l).foldl (putB first) []) := Lib.hid rfl
  have HS := Lib.hid (blocks_snoc first [] (d :: l))
  have HFL := Lib.hid (fun k => fold_le first [] ((d :: l).take k) (by simp))
  have hok2 : ∀ s ∈ d :: l, SpI s := fun s hs => by
    rcases List.mem_cons.1 hs with rfl | hs
    · exact hd
    · exact hok s hs
  have HOK := Lib.hid (fun i (hi : i < (d :: l).length) => (show SpI ((d :: l).getD i (0, 0)) from by
    have e : (d :: l).getD i (0, 0) = (d :: l)[i] := by rw [List.getD_eq_getElem?_getD, List.getElem?_eq_getElem hi]; rfl
    rw [e]
    exact hok2 _ (List.getElem_mem _)))
  clear hok2
  have hal : (d :: l).length = n + 1 := by simp [hlen]
  have HCE : Hid (spCells [d] ++ spCells l = spCells (d :: l)) := Lib.hid rfl
  generalize hLL : d :: l = LL at *
  clear b1 d1 hl hok b2 hLL ho1
  go_enter Try.func13, Try.ntmps13
  go_wp2_with (at_builtin; refine wpList_append_sz _ rfl (.tmp 13) (.tmp 14) 27 27 rfl w.heap.size 26 i0 (.agg #[.int .i64 0, .int .i64 0]) 2 16 Try.underlying27 hi hz0 hz1 (by decide) hz2 rfl (.slice (some ⟨w.heap.size + 1, 0, none⟩) 1 1) 1 (spCells [d]) rfl HO1.out _ rfl n (spCells l) HSL.out (by unfold maxLen; omega) (by omega) (by simp; omega) ?_; intro a' cap' w1 ho hg hw)
  have hb1 : Below w.heap.size w w1 := HB2.out.trans (below_grown hg HB2.out.size (fun k hk => by cases hk; simp))
  rw [HCE.out] at ho
  obtain ⟨a2, c2, e2, hsl, _⟩ := sls_of_own ho
  injection e2 with e2 e3 e4
  subst e2 e4
  have hle := hsl.le
  have hmost := hsl.most
  unfold maxLen at hmost
  have HSS := Lib.hid hsl
  have hsz1 := hb1.size
  clear ho hg hw HO1 HSL HB2 HCE e3 hsl c0 c1
  obtain ⟨m, hm⟩ : ∃ m, m = 1 + n := ⟨_, rfl⟩
  rw [← hm] at hle HSS ⊢
  have hmn : LL.length = m := by omega
  clear hal hlen hm
  go_wp2_with fail
  go_loopw [8, 9] (fun u i wr => NRel w1 first LL m u i wr) (fun _ i _ => m - (intOf i).toNat)
  case atStart => exact ⟨0, .slice none 0 0, Nat.zero_le _, rfl, rfl, World.ownsRow_nil _ _ _ _, Below.refl _ _⟩
  case round =>
    obtain ⟨k, v, hk, rfl, rfl, hown, hbel⟩ := hrel
    obtain ⟨wo, rfl⟩ : ∃ wo : World, wo = wr := ⟨_, rfl⟩
    obtain ⟨va, vc, rfl⟩ := own_form hown
    by_cases hkm : k < m
    · obtain ⟨b, off, rfl, hc⟩ := (HSS.out.later hbel).cells (by omega)
      obtain ⟨x0, x1⟩ := hc k hkm
      have hbl : b < w1.heap.size := by
        obtain ⟨b', off', e, hc'⟩ := HSS.out.cells (by omega)
        injection e with e
        injection e with e1 _
        subst e1
        exact World.block_lt_of_cell? w1 _ (hc' k hkm).1
      have hs := HOK.out k (by omega)
      have hst := HS.out k (by omega)
      have hfl := HFL.out k
      generalize LL.getD k (0, 0) = s at *
      obtain ⟨⟨s1, s2⟩, ⟨s3, s4⟩⟩ := hs
      have HL := Lib.hid (rlen_any s)
      have HPB : Hid (∀ L, putB first L s = if 0 < lenI s ∧ L.length < 4 then L ++ [mkB first s] else L) := Lib.hid (fun _ => rfl)
      have HST := Lib.hid hst
      generalize (LL.take k).foldl (putB first) [] = L at *
      generalize lenI s = z at *
      have HO := Lib.hid hown
      have HBL := Lib.hid hbel
      clear hst hc hown hbel
      go_wp2_with fail
      refine (HL.out _).mono ?_
      rintro e w2 ⟨rfl, h2⟩
      have y0 := (h2.cell (p := ⟨b, off + k * 2, none⟩) (World.block_lt_of_cell? wo _ x0)).trans x0
      have y1 := (h2.cell (p := ⟨b, off + k * 2 + 1, none⟩) (World.block_lt_of_cell? wo _ x1)).trans x1
      have HO2 := Lib.hid (own_later HO.out h2)
      have hb2 := HBL.out.trans (h2.mono HBL.out.size)
      have hsz2 := hb2.size
      have HB2 := Lib.hid hb2
      clear x0 x1 h2 HL HO hb2
      by_cases hgood : 0 < z ∧ L.length < 4
      · obtain ⟨hz, h4⟩ := hgood
        have H : Hid ((LL.take (k + 1)).foldl (putB first) [] = L ++ [mkB first s]) := Lib.hid (by rw [HST.out, HPB.out, if_pos ⟨hz, h4⟩])
        have p1 := m32_bd s.1
        have p2 := m32_bd s.2
        have M1 := Lib.hid (fun W => mod_any s.1 W ⟨s1, s2⟩)
        have M2 := Lib.hid (fun W => mod_any s.2 W ⟨s3, s4⟩)
        have M3 := Lib.hid (fun W => mod_any (first + m32 s.1) W (by omega))
        have M4 := Lib.hid (fun W => mod_any (first + m32 s.2) W (by omega))
        have p3 := m32_bd (first + m32 s.1)
        have p4 := m32_bd (first + m32 s.2)
        have HM : Hid (mkB first s = (m32 (first + m32 s.1), m32 (first + m32 s.2))) := Lib.hid rfl
        have hu1 := u32_m32 (first + m32 s.1)
        have hu2 := u32_m32 (first + m32 s.2)
        clear HPB HST
        go_wp2_with fail
        refine (M1.out _).mono ?_
        rintro e w' ⟨rfl, rfl⟩
        go_wp2_with fail
        refine (M3.out _).mono ?_
        rintro e w' ⟨rfl, rfl⟩
        go_wp2_with fail
        refine (M2.out _).mono ?_
        rintro e w' ⟨rfl, rfl⟩
        go_wp2_with fail
        refine (M4.out _).mono ?_
        rintro e w' ⟨rfl, rfl⟩
        generalize m32 (first + m32 s.1) = x at *
        generalize m32 (first + m32 s.2) = y at *
        have bA := bal (w := w2) (.cells #[.int .u32 x, .int .u32 y] 42)
        have HSRC := Lib.hid (block_src (bk_new w2 (x, y)))
        have hoA := own_later HO2.out bA
        have HBA := Lib.hid (HB2.out.trans (bA.mono hsz2))
        have hszA := Nat.le_trans hsz2 bA.size
        have HOA := Lib.hid hoA
        clear bA hoA y0 y1 HO2 HB2 M1 M2 M3 M4
        go_wp2_with (at_builtin; refine wpList_append_sz _ rfl (.tmp 53) (.tmp 59) 23 23 rfl w1.heap.size 42 j0 (.agg #[.int .u32 0, .int .u32 0]) 2 8 Try.underlying23 hj hy0 hy1 (by decide) hy2 rfl (.slice va L.length vc) L.length (bkCells L) rfl HOA.out _ rfl 1 [.int .u32 x, .int .u32 y] HSRC.out (by unfold maxLen; omega) (by omega) hszA ?_; intro a' cap' w3 ho hg hw; have HO3 := Lib.hid ho; have HB3 := Lib.hid (HBA.out.trans (below_grown hg hszA (fun k hk => (own_in HOA.out hk).2))); clear ho hg hw)
        go_roundw
        case rel => exact ⟨k + 1, _, by omega, by go_num, rfl, by rw [H.out, HM.out, List.length_append, List.length_singleton, bkCells_snoc]; exact HO3.out, HB3.out⟩
        case measure => simp [intOf]; omega
      · have H : Hid ((LL.take (k + 1)).foldl (putB first) [] = L) := Lib.hid (by rw [HST.out, HPB.out, if_neg hgood])
        rcases (show z ≤ 0 ∨ (0 < z ∧ 4 ≤ L.length) by omega) with q1 | ⟨q1, q2⟩
        all_goals
          clear hgood HPB HST
          go_wp2_with fail
          go_roundw
          case rel => exact ⟨k + 1, _, by omega, by go_num, rfl, by rw [H.out]; exact HO2.out, HB2.out⟩
          case measure => simp [intOf]; omega
    · have hkE : k = m := by omega
      subst hkE
      rw [List.take_of_length_le (by omega), ← HB.out] at hown
      rw [List.take_of_length_le (by omega), ← HB.out]
      have HF := Lib.hid (show RetK (blocksP first d l) w (.returned (.slice va (blocksP first d l).length vc)) wo from ⟨_, rfl, own_base hown (fun k hk => Nat.le_trans hsz1 (own_in hown hk).2), hb1.trans (hbel.mono hsz1)⟩)
      clear hown hbel hb1
      go_wp2_with fail
      go_ret
      exact HF.out
end Go.Proofs.Ytegfmjkngbnnfaa.dp
