/-
  Package runs: replace.
-/
import Derived.Test.YtgjkbejlfclpoaaRunE
namespace Go.Proofs.Ytgjkbejlfclpoaa.rn
open Go.RowKit Go.Shelf aid mem rng sp
attribute [local go_sem ↓] Go.wp_at_zero Go.wp_at_succ
set_option linter.unusedVariables false
set_option linter.unusedSimpArgs false

def RepPost (B sg : Nat) (a : Option Addr) (cap : Nat) (l' : List Sp) (w : World) (e : Ending) (w' : World) : Prop :=
  (4096 < l'.length ∧ e = .returned (.int .i64 4) ∧ Kept [sg] w w') ∨ (l'.length ≤ 4096 ∧ e = .returned (.int .i64 0) ∧ ∃ a' cap', RnAt w' B a' l'.length cap' l' ∧ Kept (B :: sg :: blk a cap) w w' ∧ ∀ b ∈ blk a' cap', b ∈ blk a cap ∨ w.heap.size ≤ b)
theorem rn_ne {w : World} {B : Nat} {a a2 : Option Addr} {n cap n2 cap2 : Nat} {l : List Sp} {xs : List Value} (h : RnAt w B a n cap l) (hs : SlR w 24 2 a2 n2 cap2 xs) : B ∉ blk a2 cap2 := by
  intro hb
  obtain ⟨_, cur, hc⟩ := hs.lt B hb
  have := h.hdr
  rw [this] at hc
  simp at hc
set_option maxHeartbeats 2000000 in
theorem replace_any {w : World} {B sg k n cap f t : Nat} {a : Option Addr} {l ys : List Sp} (h : RnAt w B a n cap l) (hft : f ≤ t) (htn : t ≤ n) (hn : n ≤ 4096) (hys : ys.length ≤ 2) (hBs : B ≠ sg) (hsb : sg ∉ blk a cap) (hpos : 0 < n + ys.length) (hsz : sg < w.heap.size)
    (HD : Calls Try.prog 66 #[.slice (some ⟨sg, 0, none⟩) k k, .func (.func 67) #[] #[]] w (DelPost sg ys k w)) :
    Calls Try.prog 50 #[.pointer (some ⟨B, 0, none⟩), .int .i64 f, .int .i64 t, .slice (some ⟨sg, 0, none⟩) k k] w (RepPost B sg a cap (l.take f ++ ys ++ l.drop t) w) := by
  obtain ⟨i0, hi, hz0, hz1, hz2⟩ := info_split info_span
  have hlen := row_len h.row
  have hll : (l.take f ++ ys ++ l.drop t).length = f + ys.length + (n - t) := by simp only [List.length_append, List.length_take, List.length_drop]; omega
  have hLL : spCells (l.take f ++ ys ++ l.drop t) = (spCells l).take (f * 2) ++ spCells ys ++ (spCells l).drop (t * 2) := by rw [spCells_append, spCells_append, spTake, spDrop]
  generalize l.take f ++ ys ++ l.drop t = L' at *
  have HLC := Lib.hid hLL
  clear hLL
  obtain ⟨E, hE⟩ : ∃ E : Nat, (f : Int) + (ys.length : Int) = (E : Int) := ⟨f + ys.length, by omega⟩
  have HEN : Hid (E = f + ys.length) := Lib.hid (by omega)
  have HHD := Lib.hid HD
  have HBS := Lib.hid (And.intro hBs (And.intro hsb (rn_ne h h.row)))
  have HH := Lib.hid h
  clear HD hBs hsb
  have c0 := cofr h.hdr 0 _ rfl
  have hle := h.row.le
  have hmost := h.row.most
  unfold maxLen at hmost
  have HE2 := Lib.hid hE
  clear hlen
  by_cases hfull : 4096 < E + n - t
  · have HF := Lib.hid (fun W (hk : Kept [sg] w W) => show RepPost B sg a cap L' w (.returned (.int .i64 4)) W from .inl ⟨by rw [hll]; have := HEN.out; omega, rfl, hk⟩)
    clear h
    have hfi : 4096 < (E : Int) + (n : Int) - (t : Int) := by omega
    go_enter Try.func50, Try.ntmps50
    go_wp2_with fail
    refine HHD.out.mono ?_
    rintro e w1 ⟨rfl, hs1, hk1⟩
    have c1 := hk1.cell (p := ⟨B, 0, none⟩) (by simpa using HBS.out.1) c0
    have HK := Lib.hid hk1
    clear hs1 hk1 c0
    go_wp2
    go_ret
    exact HF.out _ HK.out
  · have hfi : ¬ 4096 < (E : Int) + (n : Int) - (t : Int) := by omega
    have HLL := Lib.hid hll
    clear h hll
    go_enter Try.func50, Try.ntmps50
    go_wp2_with fail
    refine HHD.out.mono ?_
    rintro e w1 ⟨rfl, hs1, hk1⟩
    have c1 := hk1.cell (p := ⟨B, 0, none⟩) (by simpa using HBS.out.1) c0
    have h1 : RnAt w1 B a n cap l := ⟨hk1.heap (by simpa using HBS.out.1) HH.out.hdr, HH.out.row.keep hk1 (fun b hb e => by simp at e; subst e; exact HBS.out.2.1 hb)⟩
    have HG := Lib.hid (grow_any h1.row ys.length (by omega))
    have H1 := Lib.hid (And.intro hs1 (And.intro hk1 h1))
    clear hs1 hk1 h1 c0
    go_wp2_with fail
    clear hE
    refine HG.out.mono ?_
    rintro e w5 ⟨a5, cap5, rfl, hr5, hc5, hb5, hbl5⟩
    obtain ⟨hs1, hk1, h1⟩ := H1.out
    have hm5 := hr5.most
    unfold maxLen at hm5
    obtain ⟨g, off, P, R, rfl, hp5⟩ := hr5.slp (by omega)
    have hgB : g ∈ blk (some ⟨g, off, none⟩) cap5 := by rw [blk_some _ _ _ (by omega)]; simp
    have h5 : RnAt w5 B a n cap l := h1.later hb5
    have hBg : B ≠ g := fun e => by subst e; exact rn_ne h5 hr5 hgB
    have hs5 := hs1.later hb5
    have hsg : sg ≠ g := fun e => by
      subst e
      rcases hbl5 sg hgB with q | q
      · exact HBS.out.2.1 q
      · have := hk1.size; omega
    obtain ⟨A1, B1, C1, B2, q1, q2, q3, q4, q5, q6, q7⟩ := rep_cut P (spCells l) R off n cap5 f t E ys.length hp5.p hp5.len hp5.room hft htn HEN.out hc5
    have hh5 := hp5.heap
    rw [q1] at hh5
    have hhd : w5.drew.heap[g]? = some (.cells (A1 ++ B1 ++ C1).toArray 24 (0, 0)) := hh5
    have c5 : w5.drew.cell? ⟨B, 0, none⟩ = some (.slice a n cap) := cofr h5.hdr 0 _ rfl
    have f5 : w5.drew.frozen? ⟨B, 0, none⟩ = false := fofr (show w5.drew.heap[B]? = _ from h5.hdr) 0
    have hE5 : E ≤ cap5 := by have := HEN.out; omega
    have HP5 := Lib.hid hp5
    have HXS := Lib.hid hp5.len
    have HHD5 := Lib.hid h5.hdr
    have HH5 := Lib.hid (show w5.heap[g]? = some (.cells (A1 ++ B1 ++ C1).toArray 24 (0, 0)) from hh5)
    have hkw5 : Kept [sg] w w5 := hk1.trans (Kept.of_below hb5 (Nat.le_refl _) [sg]) (fun x hx => .inl hx)
    have hgw : g ∈ blk a cap ∨ w.heap.size ≤ g := by
      rcases hbl5 g hgB with q | q
      · exact .inl q
      · exact .inr (by have := hk1.size; omega)
    have HKW := Lib.hid (And.intro hkw5 hgw)
    have HSRC := Lib.hid (fun (htn' : t < n) => show Src Try.prog 2 28 (.slice (some ⟨g, off + t * 2, none⟩) (n - t) (n - t)) (n - t) ((spCells l).drop (t * 2)) w5.drew from by
      have h := (hr5.sub t n n (by omega) (Nat.le_refl _) (Nat.le_refl _) hr5.le htn').later (Below.refl _ w5).drew
      rw [List.take_of_length_le (by rw [hp5.len]; omega)] at h
      exact h.src Try.underlying28 (fun u hu => spCells_one l u (List.mem_of_mem_drop hu)))
    have HS5 := Lib.hid hs5
    have HEND := Lib.hid (fun (w8 : World) (h8 : w8.heap[g]? = some (.cells ((P ++ (spCells l).take (f * 2)) ++ spCells ys ++ ((spCells l).drop (t * 2) ++ C1)).toArray 24 (0, 0))) (hb8 : w8.heap[B]? = some (.cells #[.slice (some ⟨g, off, none⟩) (E + (n - t)) cap5] 56 (0, 0))) (hk8 : Kept [g, B] w5 w8) =>
      show RepPost B sg a cap L' w (.returned (.int .i64 0)) w8 from by
        have hEN := HEN.out
        have hll := HLL.out
        have eN : E + (n - t) = L'.length := by omega
        have hcl := HLC.out
        refine .inr ⟨by omega, rfl, some ⟨g, off, none⟩, cap5, ⟨by rw [← eN]; exact hb8, SlP.slr (P := P) (R := C1) ⟨?_, hp5.p, by rw [spCells_len], by omega, by unfold maxLen; omega, by rw [spCells_len]; omega⟩⟩, ?_, fun b hb => ?_⟩
        · rw [h8, hcl]
          simp only [List.append_assoc]
        · refine (hkw5.mono (S' := B :: sg :: blk a cap) (fun x hx => .inl (by simp at hx; simp [hx]))).trans hk8 (fun x hx => ?_)
          simp at hx
          rcases hx with rfl | rfl
          · rcases hgw with q | q
            · exact .inl (by simp [q])
            · exact .inr q
          · exact .inl (by simp)
        · rw [blk_some _ _ _ (by omega)] at hb
          simp at hb
          subst hb
          exact hgw)
    have hBg' := hBg
    have HQ := Lib.hid (And.intro q2 (And.intro q3 (And.intro q4 (And.intro q5 q6))))
    have HBG := Lib.hid (And.intro hBg hsg)
    clear hs1 hk1 h1 hr5 hp5 HP5 h5 hs5 hh5 q1 q2 q3 q4 q5 q6 q7 hb5 hbl5 hgB hBg hsg hkw5 hgw HG c1 hBg' hfi
    by_cases htn' : t < n
    · have HSR := Lib.hid (HSRC.out htn')
      have hgo : ¬ (n - t = 0) := by omega
      have hnt : ¬ n = t := by omega
      have hnc5 : n ≤ cap5 := by omega
      go_wp2_with fail
      refine wp_region_noPanic ?_
      refine wp_region_held_drew (S := (fun _ => True)) (by kernel_rfl) ?_ (fun hHeld => ?_)
      · ((try dsimp only); all_goals trivial)
      refine wpAnyH_take (i := 0) (oi := _) (v := ?_) rfl (by kernel_rfl) (by kernel_rfl) (by kernel_rfl) (fun _ _ _ h => h) (Or.inl ⟨by rfl, ?_⟩) (by assumption) ?_
      rotate_left
      · (first | (intro v hSw; (try dsimp only at hSw); go_simp; done) | (intro v hSw; (try dsimp only at hSw); go_simp; with_reducible rfl))
      (try simp only [List.getElem_toArray, List.getElem_cons_succ, List.getElem_cons_zero, Act.put, List.setIfInBounds_toArray, List.set_cons_zero, List.set_cons_succ])
      refine wpAnyH_take (i := 1) (oi := _) (v := ?_) rfl (by kernel_rfl) (by kernel_rfl) (by kernel_rfl) (fun _ _ _ h => h) (Or.inl ⟨by rfl, ?_⟩) (by assumption) ?_
      rotate_left
      · (first | (intro v hSw; (try dsimp only at hSw); go_simp; done) | (intro v hSw; (try dsimp only at hSw); go_simp; with_reducible rfl))
      (try simp only [List.getElem_toArray, List.getElem_cons_succ, List.getElem_cons_zero, Act.put, List.setIfInBounds_toArray, List.set_cons_zero, List.set_cons_succ])
      refine wpAnyH_take (i := 2) (oi := _) (v := ?_) rfl (by kernel_rfl) (by kernel_rfl) (by kernel_rfl) (fun _ _ _ h => h) (Or.inl ⟨by rfl, ?_⟩) (by assumption) ?_
      rotate_left
      · (first | (intro v hSw; (try dsimp only at hSw); go_simp; done) | (intro v hSw; (try dsimp only at hSw); go_simp; with_reducible rfl))
      (try simp only [List.getElem_toArray, List.getElem_cons_succ, List.getElem_cons_zero, Act.put, List.setIfInBounds_toArray, List.set_cons_zero, List.set_cons_succ])
      refine wpAnyH_take (i := 3) (oi := _) (v := ?_) rfl (by kernel_rfl) (by kernel_rfl) (by kernel_rfl) (fun _ _ _ h => h) (Or.inl ⟨by rfl, ?_⟩) (by assumption) ?_
      rotate_left
      · (first | (intro v hSw; (try dsimp only at hSw); go_simp; done) | (intro v hSw; (try dsimp only at hSw); go_simp; with_reducible rfl))
      (try simp only [List.getElem_toArray, List.getElem_cons_succ, List.getElem_cons_zero, Act.put, List.setIfInBounds_toArray, List.set_cons_zero, List.set_cons_succ])
      refine wpAnyH_take (i := 4) (oi := _) (v := ?_) rfl (by kernel_rfl) (by kernel_rfl) (by kernel_rfl) (fun _ _ _ h => h) (Or.inl ⟨by rfl, ?_⟩) (by assumption) ?_
      rotate_left
      · (first | (intro v hSw; (try dsimp only at hSw); go_simp; done) | (intro v hSw; (try dsimp only at hSw); go_simp; with_reducible rfl))
      (try simp only [List.getElem_toArray, List.getElem_cons_succ, List.getElem_cons_zero, Act.put, List.setIfInBounds_toArray, List.set_cons_zero, List.set_cons_succ])
      refine wpAnyH_take (i := 5) (oi := _) (v := ?_) rfl (by kernel_rfl) (by kernel_rfl) (by kernel_rfl) (fun _ _ _ h => h) (Or.inl ⟨by rfl, ?_⟩) (by assumption) ?_
      rotate_left
      · (first | (intro v hSw; (try dsimp only at hSw); go_simp; done) | (intro v hSw; (try dsimp only at hSw); go_simp; with_reducible rfl))
      (try simp only [List.getElem_toArray, List.getElem_cons_succ, List.getElem_cons_zero, Act.put, List.setIfInBounds_toArray, List.set_cons_zero, List.set_cons_succ])
      refine wpAnyH_take (i := 6) (oi := _) (v := ?_) rfl (by kernel_rfl) (by kernel_rfl) (by kernel_rfl) (fun _ _ _ h => h) (Or.inl ⟨by rfl, ?_⟩) (by assumption) ?_
      rotate_left
      · (first | (intro v hSw; (try dsimp only at hSw); go_simp; done) | (intro v hSw; (try dsimp only at hSw); go_simp; with_reducible rfl))
      (try simp only [List.getElem_toArray, List.getElem_cons_succ, List.getElem_cons_zero, Act.put, List.setIfInBounds_toArray, List.set_cons_zero, List.set_cons_succ])
      refine wpAnyH_take (i := 7) (oi := _) (v := ?_) rfl (by kernel_rfl) (by kernel_rfl) (by kernel_rfl) (fun _ _ _ h => h) (Or.inl ⟨by rfl, ?_⟩) (by assumption) ?_
      rotate_left
      · (first | (intro v hSw; (try dsimp only at hSw); go_simp; done) | (intro v hSw; (try dsimp only at hSw); go_simp; with_reducible rfl))
      (try simp only [List.getElem_toArray, List.getElem_cons_succ, List.getElem_cons_zero, Act.put, List.setIfInBounds_toArray, List.set_cons_zero, List.set_cons_succ])
      refine wpAnyH_take (i := 8) (oi := _) (v := ?_) rfl (by kernel_rfl) (by kernel_rfl) (by kernel_rfl) (fun _ _ _ h => h) (Or.inl ⟨by rfl, ?_⟩) (by assumption) ?_
      rotate_left
      · (first | (intro v hSw; (try dsimp only at hSw); go_simp; done) | (intro v hSw; (try dsimp only at hSw); go_simp; with_reducible rfl))
      (try simp only [List.getElem_toArray, List.getElem_cons_succ, List.getElem_cons_zero, Act.put, List.setIfInBounds_toArray, List.set_cons_zero, List.set_cons_succ])
      refine wpAnyH_ready (rs := [9]) (by kernel_rfl) (by simp) ?_
      refine AllReadyH.cons (o := _) rfl (fun K hK => ?_) AllReadyH.nil
      refine step_append_q _ rfl (.tmp 39) (.tmp 44) 28 28 rfl 24 i0 2 Try.underlying28 hi hz1 g off E cap5 A1 B1 C1 rfl hhd HQ.out.1 _ rfl (n - t) ((spCells l).drop (t * 2)) HSR.out HQ.out.2.1 (by have := HEN.out; omega) ?_
      intro w6 hw6 hk6
      have c6 := hk6.cell (p := ⟨B, 0, none⟩) (by simpa using HBG.out.1) c5
      have f6 : w6.frozen? ⟨B, 0, none⟩ = false := (hk6.frozen (p := ⟨B, 0, none⟩) (by simpa using HBG.out.1) c5).trans f5
      refine hK.out _ _ ?_ (fun hHeld => ?_)
      · ((try dsimp only); all_goals trivial)
      clear hK K
      (try simp only [List.getElem_toArray, List.getElem_cons_succ, List.getElem_cons_zero, Act.put, List.setIfInBounds_toArray, List.set_cons_zero, List.set_cons_succ])
      refine wpAnyH_take (i := 10) (oi := _) (v := ?_) rfl (by kernel_rfl) (by kernel_rfl) (by kernel_rfl) (fun _ _ _ h => h) (Or.inl ⟨by rfl, ?_⟩) (by assumption) ?_
      rotate_left
      · (first | (intro v hSw; (try dsimp only at hSw); go_simp; done) | (intro v hSw; (try dsimp only at hSw); go_simp; with_reducible rfl))
      (try simp only [List.getElem_toArray, List.getElem_cons_succ, List.getElem_cons_zero, Act.put, List.setIfInBounds_toArray, List.set_cons_zero, List.set_cons_succ])
      refine wpAnyH_take (i := 11) (oi := _) (v := ?_) rfl (by kernel_rfl) (by kernel_rfl) (by kernel_rfl) (fun _ _ _ h => h) (Or.inl ⟨by rfl, ?_⟩) (by assumption) ?_
      rotate_left
      · (first | (intro v hSw; (try dsimp only at hSw); go_simp; done) | (intro v hSw; (try dsimp only at hSw); go_simp; with_reducible rfl))
      (try simp only [List.getElem_toArray, List.getElem_cons_succ, List.getElem_cons_zero, Act.put, List.setIfInBounds_toArray, List.set_cons_zero, List.set_cons_succ])
      refine wpAnyH_ready (rs := [12]) (by kernel_rfl) (by simp) ?_
      refine AllReadyH.cons (o := _) rfl (fun K hK => ?_) AllReadyH.nil
      go_simp
      refine hK.out _ _ ?_ (fun hHeld => ?_)
      · ((try dsimp only); all_goals trivial)
      clear hK K
      (try simp only [List.getElem_toArray, List.getElem_cons_succ, List.getElem_cons_zero, Act.put, List.setIfInBounds_toArray, List.set_cons_zero, List.set_cons_succ])
      refine wpAnyH_done (by kernel_rfl) ?_ _
      refine NoPanic.normal ?_
      have hk56 : Kept [g] w5 w6 := ⟨hk6.os, hk6.tape, hk6.output, hk6.size, hk6.block⟩
      have hB6 : w6.heap[B]? = some (.cells #[.slice a n cap] 56 (0, 0)) := hk56.heap (by simpa using HBG.out.1) HHD5.out
      have hB7 : (w6.setCell ⟨B, 0, none⟩ (.slice (some ⟨g, off, none⟩) (E + (n - t)) cap5)).heap[B]? = some (.cells #[.slice (some ⟨g, off, none⟩) (E + (n - t)) cap5] 56 (0, 0)) := (heap_setCell_same w6 B 0 _ _ _ hB6).trans rfl
      have hg7 : (w6.setCell ⟨B, 0, none⟩ (.slice (some ⟨g, off, none⟩) (E + (n - t)) cap5)).heap[g]? = some (.cells (A1 ++ (spCells l).drop (t * 2) ++ C1).toArray 24 (0, 0)) := (Below.heap_setCell w6 ⟨B, 0, none⟩ _ g (by have := HBG.out.1; simp; omega)).trans hw6.out
      have hk7 : Kept [g, B] w5 (w6.setCell ⟨B, 0, none⟩ (.slice (some ⟨g, off, none⟩) (E + (n - t)) cap5)) := (hk56.mono (S' := [g, B]) (fun x hx => .inl (by simp at hx; simp [hx]))).setCell (.inl (by simp)) _
      have hs7 : SlR (w6.setCell ⟨B, 0, none⟩ (.slice (some ⟨g, off, none⟩) (E + (n - t)) cap5)) 24 2 (some ⟨sg, 0, none⟩) ys.length k (spCells ys) := HS5.out.keep hk7 (fun b hb hm => by
        by_cases hk0 : k = 0
        · subst hk0; simp [blk_zero] at hb
        · rw [blk_some _ _ _ (by omega)] at hb
          simp at hb
          subst hb
          simp at hm
          rcases hm with hm | hm
          · exact HBG.out.2 hm
          · exact HBS.out.1 hm.symm)
      have c7 := cofr hB7 0 _ rfl
      have H7 := Lib.hid (And.intro hB7 (And.intro hg7 (And.intro hk7 hs7)))
      clear hk56 hB6 hB7 hg7 hk7 hs7 c5 f5 hhd hw6 hk6
      have hEN' : E ≤ E + (n - t) := by omega
      have hNc : E + (n - t) ≤ cap5 := by have := HEN.out; omega
      have hfE : f ≤ E := by have := HEN.out; omega
      by_cases hm : 0 < ys.length
      · have HSY := Lib.hid (H7.out.2.2.2.src Try.underlying28 (spCells_one ys))
        have hg8 : (w6.setCell ⟨B, 0, none⟩ (.slice (some ⟨g, off, none⟩) (E + (n - t)) cap5)).heap[g]? = some (.cells ((P ++ (spCells l).take (f * 2)) ++ B2 ++ ((spCells l).drop (t * 2) ++ C1)).toArray 24 (0, 0)) := by
          have := H7.out.2.1
          rw [HQ.out.2.2.1] at this
          rw [this]
          simp only [List.append_assoc]
        have HG8 := Lib.hid hg8
        have hEf : E - f = ys.length := by have := HEN.out; omega
        have hfE' : ¬ (E - f = 0) := by omega
        generalize ys.length = m at *
        obtain rfl : m = E - f := hEf.symm
        clear hg8 hEf
        have hlt2 : f < E := by omega
        go_wp2_with ((refine wpList_copy_q _ rfl (.tmp 55) (.tmp 56) 28 28 rfl 24 i0 2 Try.underlying28 hi hz1 g (off + f * 2) (E - f) (E - f) (P ++ (spCells l).take (f * 2)) B2 ((spCells l).drop (t * 2) ++ C1) rfl HG8.out HQ.out.2.2.2.2 (.slice (some ⟨sg, 0, none⟩) (E - f) k) rfl (spCells ys) HSY.out HQ.out.2.2.2.1 ?_); intro w8 hw8 hk8)
        go_ret
        refine HEND.out _ hw8.out (hk8.heap (by simpa using HBG.out.1) H7.out.1) (H7.out.2.2.1.trans hk8 (fun x hx => .inl (by simp at hx; simp [hx])))
      · obtain rfl : ys = [] := List.eq_nil_of_length_eq_zero (by omega)
        have hB2 : B2 = [] := List.eq_nil_of_length_eq_zero (by have := HQ.out.2.2.2.1; simpa using this)
        have hg8 : (w6.setCell ⟨B, 0, none⟩ (.slice (some ⟨g, off, none⟩) (E + (n - t)) cap5)).heap[g]? = some (.cells ((P ++ (spCells l).take (f * 2)) ++ spCells [] ++ ((spCells l).drop (t * 2) ++ C1)).toArray 24 (0, 0)) := by
          have := H7.out.2.1
          rw [HQ.out.2.2.1, hB2] at this
          rw [this]
          simp [spCells, List.append_assoc]
        have HFIN := Lib.hid (HEND.out _ hg8 H7.out.1 H7.out.2.2.1)
        have hEf : E = f := by have := HEN.out; simpa using this
        clear HEND H7 HQ hg8 hB2 HS5 HLL HLC HEN HE2
        obtain rfl := hEf
        go_wp2_with ((refine wpList_copy_p0 _ rfl (.tmp 55) (.tmp 56) 28 28 rfl 24 i0 Try.underlying28 hi (some ⟨g, off, none⟩) 0 (some ⟨sg, 0, none⟩) 0 k rfl rfl ?_))
        go_ret
        exact HFIN.out
    · obtain rfl : n = t := by omega
      have hdr : (spCells l).drop (n * 2) = [] := List.drop_eq_nil_of_le (by rw [HXS.out]; omega)
      simp only [Nat.sub_self, Nat.add_zero, hdr] at HEND HQ HLL
      clear hdr
      have HSR := Lib.hid ((SlR.sub0 (some ⟨g, off, none⟩) : SlR w5.drew 24 2 (some ⟨g, off, none⟩) 0 0 []).src (P := Try.prog) Try.underlying28 (fun u hu => by simp at hu))
      have hnc5 : n ≤ cap5 := by omega
      clear htn'
      go_wp2_with fail
      refine wp_region_noPanic ?_
      refine wp_region_held_drew (S := (fun _ => True)) (by kernel_rfl) ?_ (fun hHeld => ?_)
      · ((try dsimp only); all_goals trivial)
      refine wpAnyH_take (i := 0) (oi := _) (v := ?_) rfl (by kernel_rfl) (by kernel_rfl) (by kernel_rfl) (fun _ _ _ h => h) (Or.inl ⟨by rfl, ?_⟩) (by assumption) ?_
      rotate_left
      · (first | (intro v hSw; (try dsimp only at hSw); go_simp; done) | (intro v hSw; (try dsimp only at hSw); go_simp; with_reducible rfl))
      (try simp only [List.getElem_toArray, List.getElem_cons_succ, List.getElem_cons_zero, Act.put, List.setIfInBounds_toArray, List.set_cons_zero, List.set_cons_succ])
      refine wpAnyH_take (i := 1) (oi := _) (v := ?_) rfl (by kernel_rfl) (by kernel_rfl) (by kernel_rfl) (fun _ _ _ h => h) (Or.inl ⟨by rfl, ?_⟩) (by assumption) ?_
      rotate_left
      · (first | (intro v hSw; (try dsimp only at hSw); go_simp; done) | (intro v hSw; (try dsimp only at hSw); go_simp; with_reducible rfl))
      (try simp only [List.getElem_toArray, List.getElem_cons_succ, List.getElem_cons_zero, Act.put, List.setIfInBounds_toArray, List.set_cons_zero, List.set_cons_succ])
      refine wpAnyH_take (i := 2) (oi := _) (v := ?_) rfl (by kernel_rfl) (by kernel_rfl) (by kernel_rfl) (fun _ _ _ h => h) (Or.inl ⟨by rfl, ?_⟩) (by assumption) ?_
      rotate_left
      · (first | (intro v hSw; (try dsimp only at hSw); go_simp; done) | (intro v hSw; (try dsimp only at hSw); go_simp; with_reducible rfl))
      (try simp only [List.getElem_toArray, List.getElem_cons_succ, List.getElem_cons_zero, Act.put, List.setIfInBounds_toArray, List.set_cons_zero, List.set_cons_succ])
      refine wpAnyH_take (i := 3) (oi := _) (v := ?_) rfl (by kernel_rfl) (by kernel_rfl) (by kernel_rfl) (fun _ _ _ h => h) (Or.inl ⟨by rfl, ?_⟩) (by assumption) ?_
      rotate_left
      · (first | (intro v hSw; (try dsimp only at hSw); go_simp; done) | (intro v hSw; (try dsimp only at hSw); go_simp; with_reducible rfl))
      (try simp only [List.getElem_toArray, List.getElem_cons_succ, List.getElem_cons_zero, Act.put, List.setIfInBounds_toArray, List.set_cons_zero, List.set_cons_succ])
      refine wpAnyH_take (i := 4) (oi := _) (v := ?_) rfl (by kernel_rfl) (by kernel_rfl) (by kernel_rfl) (fun _ _ _ h => h) (Or.inl ⟨by rfl, ?_⟩) (by assumption) ?_
      rotate_left
      · (first | (intro v hSw; (try dsimp only at hSw); go_simp; done) | (intro v hSw; (try dsimp only at hSw); go_simp; with_reducible rfl))
      (try simp only [List.getElem_toArray, List.getElem_cons_succ, List.getElem_cons_zero, Act.put, List.setIfInBounds_toArray, List.set_cons_zero, List.set_cons_succ])
      refine wpAnyH_take (i := 5) (oi := _) (v := ?_) rfl (by kernel_rfl) (by kernel_rfl) (by kernel_rfl) (fun _ _ _ h => h) (Or.inl ⟨by rfl, ?_⟩) (by assumption) ?_
      rotate_left
      · (first | (intro v hSw; (try dsimp only at hSw); go_simp; done) | (intro v hSw; (try dsimp only at hSw); go_simp; with_reducible rfl))
      (try simp only [List.getElem_toArray, List.getElem_cons_succ, List.getElem_cons_zero, Act.put, List.setIfInBounds_toArray, List.set_cons_zero, List.set_cons_succ])
      refine wpAnyH_take (i := 6) (oi := _) (v := ?_) rfl (by kernel_rfl) (by kernel_rfl) (by kernel_rfl) (fun _ _ _ h => h) (Or.inl ⟨by rfl, ?_⟩) (by assumption) ?_
      rotate_left
      · (first | (intro v hSw; (try dsimp only at hSw); go_simp; done) | (intro v hSw; (try dsimp only at hSw); go_simp; with_reducible rfl))
      (try simp only [List.getElem_toArray, List.getElem_cons_succ, List.getElem_cons_zero, Act.put, List.setIfInBounds_toArray, List.set_cons_zero, List.set_cons_succ])
      refine wpAnyH_take (i := 7) (oi := _) (v := ?_) rfl (by kernel_rfl) (by kernel_rfl) (by kernel_rfl) (fun _ _ _ h => h) (Or.inl ⟨by rfl, ?_⟩) (by assumption) ?_
      rotate_left
      · (first | (intro v hSw; (try dsimp only at hSw); go_simp; done) | (intro v hSw; (try dsimp only at hSw); go_simp; with_reducible rfl))
      (try simp only [List.getElem_toArray, List.getElem_cons_succ, List.getElem_cons_zero, Act.put, List.setIfInBounds_toArray, List.set_cons_zero, List.set_cons_succ])
      refine wpAnyH_take (i := 8) (oi := _) (v := ?_) rfl (by kernel_rfl) (by kernel_rfl) (by kernel_rfl) (fun _ _ _ h => h) (Or.inl ⟨by rfl, ?_⟩) (by assumption) ?_
      rotate_left
      · (first | (intro v hSw; (try dsimp only at hSw); go_simp; done) | (intro v hSw; (try dsimp only at hSw); go_simp; with_reducible rfl))
      (try simp only [List.getElem_toArray, List.getElem_cons_succ, List.getElem_cons_zero, Act.put, List.setIfInBounds_toArray, List.set_cons_zero, List.set_cons_succ])
      refine wpAnyH_ready (rs := [9]) (by kernel_rfl) (by simp) ?_
      refine AllReadyH.cons (o := _) rfl (fun K hK => ?_) AllReadyH.nil
      refine step_append_q _ rfl (.tmp 39) (.tmp 44) 28 28 rfl 24 i0 2 Try.underlying28 hi hz1 g off E cap5 A1 B1 C1 rfl hhd HQ.out.1 _ rfl 0 (([] : List Value)) HSR.out HQ.out.2.1 (by have := HEN.out; omega) ?_
      intro w6 hw6 hk6
      have c6 := hk6.cell (p := ⟨B, 0, none⟩) (by simpa using HBG.out.1) c5
      have f6 : w6.frozen? ⟨B, 0, none⟩ = false := (hk6.frozen (p := ⟨B, 0, none⟩) (by simpa using HBG.out.1) c5).trans f5
      refine hK.out _ _ ?_ (fun hHeld => ?_)
      · ((try dsimp only); all_goals trivial)
      clear hK K
      (try simp only [List.getElem_toArray, List.getElem_cons_succ, List.getElem_cons_zero, Act.put, List.setIfInBounds_toArray, List.set_cons_zero, List.set_cons_succ])
      refine wpAnyH_take (i := 10) (oi := _) (v := ?_) rfl (by kernel_rfl) (by kernel_rfl) (by kernel_rfl) (fun _ _ _ h => h) (Or.inl ⟨by rfl, ?_⟩) (by assumption) ?_
      rotate_left
      · (first | (intro v hSw; (try dsimp only at hSw); go_simp; done) | (intro v hSw; (try dsimp only at hSw); go_simp; with_reducible rfl))
      (try simp only [List.getElem_toArray, List.getElem_cons_succ, List.getElem_cons_zero, Act.put, List.setIfInBounds_toArray, List.set_cons_zero, List.set_cons_succ])
      refine wpAnyH_take (i := 11) (oi := _) (v := ?_) rfl (by kernel_rfl) (by kernel_rfl) (by kernel_rfl) (fun _ _ _ h => h) (Or.inl ⟨by rfl, ?_⟩) (by assumption) ?_
      rotate_left
      · (first | (intro v hSw; (try dsimp only at hSw); go_simp; done) | (intro v hSw; (try dsimp only at hSw); go_simp; with_reducible rfl))
      (try simp only [List.getElem_toArray, List.getElem_cons_succ, List.getElem_cons_zero, Act.put, List.setIfInBounds_toArray, List.set_cons_zero, List.set_cons_succ])
      refine wpAnyH_ready (rs := [12]) (by kernel_rfl) (by simp) ?_
      refine AllReadyH.cons (o := _) rfl (fun K hK => ?_) AllReadyH.nil
      go_simp
      refine hK.out _ _ ?_ (fun hHeld => ?_)
      · ((try dsimp only); all_goals trivial)
      clear hK K
      (try simp only [List.getElem_toArray, List.getElem_cons_succ, List.getElem_cons_zero, Act.put, List.setIfInBounds_toArray, List.set_cons_zero, List.set_cons_succ])
      refine wpAnyH_done (by kernel_rfl) ?_ _
      refine NoPanic.normal ?_
      have hk56 : Kept [g] w5 w6 := ⟨hk6.os, hk6.tape, hk6.output, hk6.size, hk6.block⟩
      have hB6 : w6.heap[B]? = some (.cells #[.slice a n cap] 56 (0, 0)) := hk56.heap (by simpa using HBG.out.1) HHD5.out
      have hB7 : (w6.setCell ⟨B, 0, none⟩ (.slice (some ⟨g, off, none⟩) (E) cap5)).heap[B]? = some (.cells #[.slice (some ⟨g, off, none⟩) (E) cap5] 56 (0, 0)) := (heap_setCell_same w6 B 0 _ _ _ hB6).trans rfl
      have hg7 : (w6.setCell ⟨B, 0, none⟩ (.slice (some ⟨g, off, none⟩) (E) cap5)).heap[g]? = some (.cells (A1 ++ ([] : List Value) ++ C1).toArray 24 (0, 0)) := (Below.heap_setCell w6 ⟨B, 0, none⟩ _ g (by have := HBG.out.1; simp; omega)).trans hw6.out
      have hk7 : Kept [g, B] w5 (w6.setCell ⟨B, 0, none⟩ (.slice (some ⟨g, off, none⟩) (E) cap5)) := (hk56.mono (S' := [g, B]) (fun x hx => .inl (by simp at hx; simp [hx]))).setCell (.inl (by simp)) _
      have hs7 : SlR (w6.setCell ⟨B, 0, none⟩ (.slice (some ⟨g, off, none⟩) (E) cap5)) 24 2 (some ⟨sg, 0, none⟩) ys.length k (spCells ys) := HS5.out.keep hk7 (fun b hb hm => by
        by_cases hk0 : k = 0
        · subst hk0; simp [blk_zero] at hb
        · rw [blk_some _ _ _ (by omega)] at hb
          simp at hb
          subst hb
          simp at hm
          rcases hm with hm | hm
          · exact HBG.out.2 hm
          · exact HBS.out.1 hm.symm)
      have c7 := cofr hB7 0 _ rfl
      have H7 := Lib.hid (And.intro hB7 (And.intro hg7 (And.intro hk7 hs7)))
      clear hk56 hB6 hB7 hg7 hk7 hs7 c5 f5 hhd hw6 hk6
      have hEN' : E ≤ E := Nat.le_refl _
      have hNc : E ≤ cap5 := by have := HEN.out; omega
      have hfE : f ≤ E := by have := HEN.out; omega
      by_cases hm : 0 < ys.length
      · have HSY := Lib.hid (H7.out.2.2.2.src Try.underlying28 (spCells_one ys))
        have hg8 : (w6.setCell ⟨B, 0, none⟩ (.slice (some ⟨g, off, none⟩) (E) cap5)).heap[g]? = some (.cells ((P ++ (spCells l).take (f * 2)) ++ B2 ++ (([] : List Value) ++ C1)).toArray 24 (0, 0)) := by
          have := H7.out.2.1
          rw [HQ.out.2.2.1] at this
          rw [this]
          simp only [List.append_assoc]
        have HG8 := Lib.hid hg8
        have hEf : E - f = ys.length := by have := HEN.out; omega
        have hfE' : ¬ (E - f = 0) := by omega
        generalize ys.length = m at *
        obtain rfl : m = E - f := hEf.symm
        clear hg8 hEf
        have hlt2 : f < E := by omega
        go_wp2_with ((refine wpList_copy_q _ rfl (.tmp 55) (.tmp 56) 28 28 rfl 24 i0 2 Try.underlying28 hi hz1 g (off + f * 2) (E - f) (E - f) (P ++ (spCells l).take (f * 2)) B2 (([] : List Value) ++ C1) rfl HG8.out HQ.out.2.2.2.2 (.slice (some ⟨sg, 0, none⟩) (E - f) k) rfl (spCells ys) HSY.out HQ.out.2.2.2.1 ?_); intro w8 hw8 hk8)
        go_ret
        refine HEND.out _ hw8.out (hk8.heap (by simpa using HBG.out.1) H7.out.1) (H7.out.2.2.1.trans hk8 (fun x hx => .inl (by simp at hx; simp [hx])))
      · obtain rfl : ys = [] := List.eq_nil_of_length_eq_zero (by omega)
        have hB2 : B2 = [] := List.eq_nil_of_length_eq_zero (by have := HQ.out.2.2.2.1; simpa using this)
        have hg8 : (w6.setCell ⟨B, 0, none⟩ (.slice (some ⟨g, off, none⟩) (E) cap5)).heap[g]? = some (.cells ((P ++ (spCells l).take (f * 2)) ++ spCells [] ++ (([] : List Value) ++ C1)).toArray 24 (0, 0)) := by
          have := H7.out.2.1
          rw [HQ.out.2.2.1, hB2] at this
          rw [this]
          simp [spCells, List.append_assoc]
        have HFIN := Lib.hid (HEND.out _ hg8 H7.out.1 H7.out.2.2.1)
        have hEf : E = f := by have := HEN.out; simpa using this
        clear HEND H7 HQ hg8 hB2 HS5 HLL HLC HEN HE2
        obtain rfl := hEf
        go_wp2_with ((refine wpList_copy_p0 _ rfl (.tmp 55) (.tmp 56) 28 28 rfl 24 i0 Try.underlying28 hi (some ⟨g, off, none⟩) 0 (some ⟨sg, 0, none⟩) 0 k rfl rfl ?_))
        go_ret
        exact HFIN.out
end Go.Proofs.Ytgjkbejlfclpoaa.rn
