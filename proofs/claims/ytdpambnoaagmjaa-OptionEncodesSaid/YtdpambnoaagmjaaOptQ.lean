/-
  The walk of the law OptionSkips.
-/
import Derived.Test.YtdpambnoaagmjaaOptL
namespace Go.Proofs.Ytdpambnoaagmjaa.op
open Go.RowKit Go.ChangeShapes aid mem oc
set_option linter.unusedVariables false

theorem skip_eq (q : Nat) (k : Int) (t b : List Int) (hk : 5 < k ∧ k ≠ 8) (h : (List.replicate q 1 ++ [k, 2 + (t.length : Int)] ++ t ++ b).length ≤ 40) :
    parseL (List.replicate q 1 ++ [k, 2 + (t.length : Int)] ++ t ++ b) = parseL b := by
  have e : List.replicate q 1 ++ [k, 2 + (t.length : Int)] ++ t ++ b = List.replicate q 1 ++ (k :: (2 + t.length : Int) :: (t ++ b)) := by simp
  have hb : b.length ≤ 40 := by simp at h; omega
  rw [e] at h ⊢
  unfold parseL
  rw [if_neg (by omega), if_neg (by omega)]
  exact prs_skip q k t b 41 41 hk (by omega) (by omega)

theorem info_u8 : (Try.prog.info? 5).map (fun i => (i.zero, i.size, i.bytes)) = some (some (.int .u8 0), 1, 1) := by kernel_rfl
theorem ones_snoc (k : Nat) : List.replicate (k + 1) (1 : Int) = List.replicate k 1 ++ [1] := by
  rw [List.replicate_succ']

set_option maxRecDepth 100000 in
set_option maxHeartbeats 6400000 in
theorem walk_OptionSkips (w : World) (a0 : Option Addr) (len0 cap0 : Nat) (z0 : List Int) (w0 : IsRow .u8 w a0 len0 cap0 z0) (rb0 : cap0 * 1 ≤ 140737488351232) (a1 : Int) (b1 : 0 ≤ a1 ∧ a1 ≤ 255) (a2 : Int) (b2 : 0 ≤ a2 ∧ a2 ≤ 255)
    (a3 : Option Addr) (len3 cap3 : Nat) (z3 : List Int) (w3 : IsRow .u8 w a3 len3 cap3 z3) (rb3 : cap3 * 1 ≤ 140737488351232) :
    Calls Try.prog 10 #[.slice a0 len0 cap0, .int .u8 a1, .int .u8 a2, .slice a3 len3 cap3] w fun e w' => e = .returned (.bool true) ∧ Below w.heap.size w w' := by
  obtain ⟨i0, hi, hz0, hz1, hz2⟩ := info_parts info_u8
  have hs0 := sl_of_row w0
  have hb0 := bytes_of_row w0
  have ht0 := sl_of_row w3
  have hbt := bytes_of_row w3
  clear w0 w3
  generalize z0.take len0 = lb at *
  generalize z3.take len3 = lt at *
  have hll := hs0.len
  have hlt := ht0.len
  have hle0 := hs0.le
  have hle3 := ht0.le
  have HLL := Lib.hid hll
  have HLT := Lib.hid hlt
  have HB := Lib.hid hb0
  have HT := Lib.hid hbt
  clear hll hlt hb0 hbt
  by_cases hkind : a2 ≤ 5
  · go_enter Try.func10, Try.ntmps10
    go_wp2_with fail
    refine (known_any w).mono ?_
    rintro e wk ⟨rfl, hk⟩
    go_wp2_with fail
    refine (known_any wk).mono ?_
    rintro e w6 ⟨rfl, h6⟩
    go_wp2_with fail
    go_ret
    exact ⟨rfl, hk.trans (h6.mono hk.size)⟩
  by_cases h8 : a2 = 8
  · have h8b : (a2 == 8) = true := by simpa using h8
    have H8 := Lib.hid h8
    clear h8
    go_enter Try.func10, Try.ntmps10
    go_wp2_with fail
    refine (known_any w).mono ?_
    rintro e wk ⟨rfl, hk⟩
    go_wp2_with fail
    refine (known_any wk).mono ?_
    rintro e w6 ⟨rfl, h6⟩
    go_wp2_with fail
    go_ret
    exact ⟨rfl, hk.trans (h6.mono hk.size)⟩
  have h8b : (a2 == 8) = false := by simpa using h8
  have HK : Hid (5 < a2 ∧ a2 ≠ 8) := Lib.hid ⟨by omega, h8⟩
  clear h8
  by_cases h30 : 30 < len3
  · have h30' : (30 : Int) < (len3 : Int) := by omega
    go_enter Try.func10, Try.ntmps10
    go_wp2_with fail
    refine (known_any w).mono ?_
    rintro e wk ⟨rfl, hk⟩
    go_wp2_with fail
    refine (known_any wk).mono ?_
    rintro e w6 ⟨rfl, h6⟩
    go_wp2_with fail
    go_ret
    exact ⟨rfl, hk.trans (h6.mono hk.size)⟩
  have h30' : (len3 : Int) ≤ 30 := by omega
  obtain ⟨q, hq⟩ := Int.eq_ofNat_of_zero_le (show 0 ≤ a1 % 8 by omega)
  have hq8 : q < 8 := by omega
  have HQ := Lib.hid hq
  clear hq
  go_enter Try.func10, Try.ntmps10
  go_wp2_with fail
  refine (known_any w).mono ?_
  rintro e wk ⟨rfl, hk⟩
  have zk := hk.size
  go_wp2_with fail
  go_loopw [9, 10] (fun v i wr => ∃ (k : Nat) (a : Option Addr) (c : Nat), k ≤ q ∧ i = .int .i64 (k : Nat) ∧ v = .slice a k c ∧ wr.ownsRow wk.heap.size 5 1 (.slice a k c) k (ints .u8 (List.replicate k 1)) ∧ Below wk.heap.size wk wr) (fun _ i _ => q - (intOf i).toNat)
  case atStart => exact ⟨0, none, 0, Nat.zero_le _, rfl, rfl, World.ownsRow_nil _ _ _ _, Below.refl _ _⟩
  case round =>
    obtain ⟨k, a, c, hkq, rfl, rfl, hown, hbel⟩ := hrel
    have hsz := hbel.size
    by_cases hlt : k < q
    · have hlti : (k : Int) < a1 % 8 := by rw [HQ.out]; omega
      have HS := Lib.hid (ones_snoc k)
      go_wp2_with (at_builtin; refine wpList_append_any _ rfl (.tmp 36) (.tmp 37) 25 25 rfl wk.heap.size 5 i0 (.int .u8 0) 1 Try.underlying25 hi hz0 hz1 hz2 rfl (.slice a k c) k (ints .u8 (List.replicate k 1)) rfl (hown.alloc _) (.slice (some ⟨wr.heap.size, 0, none⟩) 1 1) rfl 1 (ints .u8 [1]) ((sl_new .u8 5 wr [1] (by simp [maxLen])).src Try.underlying25) (by unfold maxLen; omega) (by omega) (by simp; omega) ?_; intro a4 c4 w4 hown4 hgr hat)
      go_roundw
      case rel =>
        refine ⟨k + 1, a4, c4, by omega, by go_num, rfl, by rw [HS.out, ints_append]; exact hown4, (hbel.alloc hsz _).grown hgr (by simp; omega) (fun j hj => (hown.lt j hj).1)⟩
      case measure => simp [intOf]; omega
    · have hqi : ¬ (k : Int) < a1 % 8 := by rw [HQ.out]; omega
      obtain rfl : k = q := by omega
      have hB := hk.trans (hbel.mono zk)
      have zB := hB.size
      have hown0 : wr.ownsRow w.heap.size 5 1 (.slice a k c) k (ints .u8 (List.replicate k 1)) := own_base hown (fun g hg => by have := (hown.lt g hg).1; omega)
      clear hown hbel hk
      have hbk : (0 ≤ a2 ∧ a2 ≤ 255) ∧ (0 ≤ (2 : Int) + len3 ∧ (2 : Int) + len3 ≤ 255) := by omega
      have HBC : Hid (Bd (List.replicate k 1 ++ [a2, 2 + (len3 : Int)] ++ lt ++ lb)) := Lib.hid (bd_app (bd_app (bd_app (fun x hx => by rw [List.mem_replicate] at hx; omega) (bd_cons hbk.1 (bd_cons hbk.2 bd_nil))) HT.out) HB.out)
      have HLEN : Hid ((List.replicate k 1 ++ [a2, 2 + (len3 : Int)] ++ lt ++ lb).length = k + 2 + len3 + len0) := Lib.hid (by simp [HLL.out, HLT.out]; omega)
      have HSK : Hid (k + 2 + len3 + len0 ≤ 40 → parseL (List.replicate k 1 ++ [a2, 2 + (len3 : Int)] ++ lt ++ lb) = parseL lb) := Lib.hid (fun h => by
        have := skip_eq k a2 lt lb HK.out
        rw [HLT.out] at this
        exact this (by rw [HLEN.out]; exact h))
      by_cases h40 : 40 < k + 2 + len3 + len0
      · have h40i : (40 : Int) < ((k + 2 + len3 + len0 : Nat) : Int) := by omega
        go_wp2_with (first | (at_builtin; refine wpList_append_any _ rfl (.tmp 39) (.tmp 45) 25 25 rfl w.heap.size 5 i0 (.int .u8 0) 1 Try.underlying25 hi hz0 hz1 hz2 rfl (.slice a k c) (k) (ints .u8 (List.replicate k 1)) rfl (hown0.alloc _) (.slice (some ⟨wr.heap.size, 0, none⟩) 2 2) rfl (2) (ints .u8 [a2, 2 + (len3 : Int)]) ((sl_new .u8 5 wr [a2, 2 + (len3 : Int)] (by simp [maxLen])).src Try.underlying25) (by unfold maxLen; omega) (by omega) (by simp; omega) ?_; intro a5 c5 w5 hown5 hgr5 hat5; have hB5 := (hB.alloc zB _).grown hgr5 (by simp; omega) (fun j hj => (hown0.lt j hj).1); have z5 := hB5.size; have src5 := (ht0.later hB5).src (t := 25) Try.underlying25; rw [← ints_append] at hown5; clear hown0 hgr5 hat5) | (at_builtin; refine wpList_append_any _ rfl (.tmp 46) (.tmp 47) 25 25 rfl w.heap.size 5 i0 (.int .u8 0) 1 Try.underlying25 hi hz0 hz1 hz2 rfl (.slice a5 (k + 2) c5) (k + 2) (ints .u8 (List.replicate k 1 ++ [a2, 2 + (len3 : Int)])) rfl (hown5) (.slice a3 len3 cap3) rfl (len3) (ints .u8 lt) (src5) (by unfold maxLen; omega) (by omega) (z5) ?_; intro a6 c6 w6 hown6 hgr6 hat6; have hB6 := hB5.grown hgr6 z5 (fun j hj => (hown5.lt j hj).1); have z6 := hB6.size; have src6 := (hs0.later hB6).src (t := 25) Try.underlying25; rw [← ints_append] at hown6; clear hown5 hgr6 hat6 src5) | (at_builtin; refine wpList_append_any _ rfl (.tmp 49) (.tmp 50) 25 25 rfl w.heap.size 5 i0 (.int .u8 0) 1 Try.underlying25 hi hz0 hz1 hz2 rfl (.slice a6 (k + 2 + len3) c6) (k + 2 + len3) (ints .u8 (List.replicate k 1 ++ [a2, 2 + (len3 : Int)] ++ lt)) rfl (hown6) (.slice a0 len0 cap0) rfl (len0) (ints .u8 lb) (src6) (by unfold maxLen; omega) (by omega) (z6) ?_; intro a7 c7 w7 hown7 hgr7 hat7; have hB7 := hB6.grown hgr7 z6 (fun j hj => (hown6.lt j hj).1); have z7 := hB7.size; rw [← ints_append] at hown7; clear hown6 hgr7 hat7 src6))
        refine (known_any w7).mono ?_
        rintro e w8 ⟨rfl, h8⟩
        go_wp2_with fail
        go_ret
        exact ⟨rfl, hB7.trans (h8.mono z7)⟩
      · have h40i : ¬ (40 : Int) < ((k + 2 + len3 + len0 : Nat) : Int) := by omega
        obtain ⟨r, cc, hrc⟩ : ∃ r cc, parseL lb = (r, cc) := ⟨_, _, rfl⟩
        have HR1 := Lib.hid hrc
        have HR2 : Hid (parseL (List.replicate k 1 ++ [a2, 2 + (len3 : Int)] ++ lt ++ lb) = (r, cc)) := Lib.hid ((HSK.out (by omega)).trans hrc)
        clear hrc
        go_wp2_with (first | (at_builtin; refine wpList_append_any _ rfl (.tmp 39) (.tmp 45) 25 25 rfl w.heap.size 5 i0 (.int .u8 0) 1 Try.underlying25 hi hz0 hz1 hz2 rfl (.slice a k c) (k) (ints .u8 (List.replicate k 1)) rfl (hown0.alloc _) (.slice (some ⟨wr.heap.size, 0, none⟩) 2 2) rfl (2) (ints .u8 [a2, 2 + (len3 : Int)]) ((sl_new .u8 5 wr [a2, 2 + (len3 : Int)] (by simp [maxLen])).src Try.underlying25) (by unfold maxLen; omega) (by omega) (by simp; omega) ?_; intro a5 c5 w5 hown5 hgr5 hat5; have hB5 := (hB.alloc zB _).grown hgr5 (by simp; omega) (fun j hj => (hown0.lt j hj).1); have z5 := hB5.size; have src5 := (ht0.later hB5).src (t := 25) Try.underlying25; rw [← ints_append] at hown5; clear hown0 hgr5 hat5) | (at_builtin; refine wpList_append_any _ rfl (.tmp 46) (.tmp 47) 25 25 rfl w.heap.size 5 i0 (.int .u8 0) 1 Try.underlying25 hi hz0 hz1 hz2 rfl (.slice a5 (k + 2) c5) (k + 2) (ints .u8 (List.replicate k 1 ++ [a2, 2 + (len3 : Int)])) rfl (hown5) (.slice a3 len3 cap3) rfl (len3) (ints .u8 lt) (src5) (by unfold maxLen; omega) (by omega) (z5) ?_; intro a6 c6 w6 hown6 hgr6 hat6; have hB6 := hB5.grown hgr6 z5 (fun j hj => (hown5.lt j hj).1); have z6 := hB6.size; have src6 := (hs0.later hB6).src (t := 25) Try.underlying25; rw [← ints_append] at hown6; clear hown5 hgr6 hat6 src5) | (at_builtin; refine wpList_append_any _ rfl (.tmp 49) (.tmp 50) 25 25 rfl w.heap.size 5 i0 (.int .u8 0) 1 Try.underlying25 hi hz0 hz1 hz2 rfl (.slice a6 (k + 2 + len3) c6) (k + 2 + len3) (ints .u8 (List.replicate k 1 ++ [a2, 2 + (len3 : Int)] ++ lt)) rfl (hown6) (.slice a0 len0 cap0) rfl (len0) (ints .u8 lb) (src6) (by unfold maxLen; omega) (by omega) (z6) ?_; intro a7 c7 w7 hown7 hgr7 hat7; have hB7 := hB6.grown hgr7 z6 (fun j hj => (hown6.lt j hj).1); have z7 := hB7.size; rw [← ints_append] at hown7; clear hown6 hgr7 hat7 src6))
        have hsb := hs0.later hB7
        obtain ⟨aa, ca, hv, hsc, _⟩ := sl_of_own hown7
        injection hv with hv1 _ hv2
        subst hv1 hv2
        clear hown7
        refine (parse_to a0 len0 cap0 lb w7 r cc hsb HB.out HR1.out).mono ?_
        rintro e w8 ⟨a8, n8, c8, rfl, hbl8, h8⟩
        have hB8 := hB7.trans (h8.mono z7)
        have z8 := hB8.size
        have hsc8 := hsc.later h8
        have hbx := opt_new w8 r a8 n8 c8 40
        have hb9 := hB8.alloc z8 (.cells (optCells r a8 n8 c8) 40)
        have hsc9 := hsc8.later ((Below.refl _ _).alloc (Nat.le_refl _) (.cells (optCells r a8 n8 c8) 40))
        have hbl9 := hbl8.later ((Below.refl _ _).alloc (Nat.le_refl _) (.cells (optCells r a8 n8 c8) 40))
        have HCE : Hid (optCells r a8 n8 c8 = #[.int .i64 r.mss, .bool r.permit, .bool r.ts, .int .u32 r.val, .int .u32 r.ecr, .bool r.hs, .int .i64 r.scale, .slice a8 n8 c8]) := Lib.hid rfl
        rw [HCE.out] at hbx hb9 hsc9 hbl9 ⊢
        clear h8 hB7 z7 hsb hsc hsc8 hbl8 hB8
        go_wp2_with fail
        obtain ⟨w9, hw9⟩ : ∃ w9, w8.alloc (.cells #[.int .i64 r.mss, .bool r.permit, .bool r.ts, .int .u32 r.val, .int .u32 r.ecr, .bool r.hs, .int .i64 r.scale, .slice a8 n8 c8] 40) = w9 := ⟨_, rfl⟩
        rw [hw9] at hbx hb9 hsc9 hbl9 ⊢
        clear hw9
        have z9 := hb9.size
        obtain ⟨B8, hB8e⟩ : ∃ B8, w8.heap.size = B8 := ⟨_, rfl⟩
        rw [hB8e] at hbx ⊢
        clear hB8e z8
        refine (parse_to a7 (k + 2 + len3 + len0) c7 _ w9 r cc hsc9 HBC.out HR2.out).mono ?_
        rintro e w10 ⟨a10, n10, c10, rfl, hbl10, h10⟩
        have hB10 := hb9.trans (h10.mono z9)
        have z10 := hB10.size
        have hbx10 := hbx.keep (Kept.of_below h10 (Nat.le_refl _) []) (by simp)
        have hbx11 := hbx10.keep ((Kept.refl [] w10).alloc (.cells (optCells r a10 n10 c10) 40)) (by simp)
        have hbl11a := (hbl9.later h10).later ((Below.refl _ _).alloc (Nat.le_refl _) (.cells (optCells r a10 n10 c10) 40))
        have hbl11b := hbl10.later ((Below.refl _ _).alloc (Nat.le_refl _) (.cells (optCells r a10 n10 c10) 40))
        have hB11 := hB10.alloc z10 (.cells (optCells r a10 n10 c10) 40)
        have hS := rsame_any r r a8 a10 n8 n10 c8 c10 (w10.alloc (.cells (optCells r a10 n10 c10) 40)) hbl11a hbl11b
        rw [sameB_self] at hS
        have HCE2 : Hid (optCells r a10 n10 c10 = #[.int .i64 r.mss, .bool r.permit, .bool r.ts, .int .u32 r.val, .int .u32 r.ecr, .bool r.hs, .int .i64 r.scale, .slice a10 n10 c10]) := Lib.hid rfl
        rw [HCE2.out] at hbx11 hB11 hS ⊢
        rw [HCE.out] at hS
        obtain ⟨c0, c1, c2, c3, c4, c5, c6, c7'⟩ := hbx11
        clear h10 hb9 hsc9 hbl9 hbx hbx10 hbl11a hbl11b hbl10 hB10
        go_wp2_with fail
        refine hS.mono ?_
        rintro e w12 ⟨rfl, h12⟩
        have hB12 := hB11.trans (h12.mono hB11.size)
        clear h12 hS hB11 c0 c1 c2 c3 c4 c5 c6 c7'
        go_wp2_with fail
        refine (known_any w12).mono ?_
        rintro e w13 ⟨rfl, h13⟩
        go_wp2_with fail
        go_ret
        exact ⟨rfl, hB12.trans (h13.mono hB12.size)⟩
end Go.Proofs.Ytdpambnoaagmjaa.op
