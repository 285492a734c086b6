/-
  The walk of the law OctetReads.
-/
import Derived.Test.YthkgdeehehjpmaaOctN
namespace Go.Proofs.Ythkgdeehehjpmaa.oc
open Go.RowKit aid mem opn
set_option linter.unusedVariables false

theorem ElA.item {w : World} {a : Option Addr} {n cap : Nat} {l : List ItemV} (h : ElA (ItemIs w) 3 w a n cap l) (hn : 0 < n) :
    ∃ b off, a = some ⟨b, off, none⟩ ∧ b < w.heap.size ∧ ∀ i (hi : i < l.length), (w.cell? ⟨b, off + i * 3, none⟩ = some (.int .u8 l[i].kind) ∧ w.cell? ⟨b, off + (i * 3 + 1), none⟩ = some (.int .i64 l[i].n) ∧ w.cell? ⟨b, off + (i * 3 + 2), none⟩ = some (.slice l[i].a l[i].len l[i].cap)) ∧
      (0 ≤ l[i].kind ∧ l[i].kind ≤ 255) ∧ (-9223372036854775808 ≤ l[i].n ∧ l[i].n ≤ 9223372036854775807) ∧ IsRow .u8 w l[i].a l[i].len l[i].cap l[i].z := by
  obtain ⟨b, off, ha, hc⟩ := h.cells hn
  have key : ∀ i (hi : i < l.length), (w.cell? ⟨b, off + i * 3, none⟩ = some (.int .u8 l[i].kind) ∧ w.cell? ⟨b, off + (i * 3 + 1), none⟩ = some (.int .i64 l[i].n) ∧ w.cell? ⟨b, off + (i * 3 + 2), none⟩ = some (.slice l[i].a l[i].len l[i].cap)) ∧
      (0 ≤ l[i].kind ∧ l[i].kind ≤ 255) ∧ (-9223372036854775808 ≤ l[i].n ∧ l[i].n ≤ 9223372036854775807) ∧ IsRow .u8 w l[i].a l[i].len l[i].cap l[i].z := by
    intro i hi
    obtain ⟨cs, hR, _, hcj⟩ := hc i hi
    obtain ⟨hcs, h1, h2, h3⟩ := hR
    rw [hcs] at hcj
    exact ⟨⟨hcj 0 (by omega), hcj 1 (by omega), hcj 2 (by omega)⟩, h1, h2, h3⟩
  have hl := h.len
  exact ⟨b, off, ha, World.block_lt_of_cell? w _ (key 0 (by omega)).1.1, key⟩

theorem left_mem (v : ItemV) (l : List Int) : ∀ x ∈ left v l, x ∈ l := by
  intro x hx
  unfold left at hx
  repeat' split at hx
  all_goals first | exact hx | exact List.mem_of_mem_drop hx

set_option maxRecDepth 100000 in
set_option maxHeartbeats 3200000 in
theorem walk_OctetReads (a0 : Option Addr) (len0 cap0 : Nat) (z0 : List Int) (w : World) (w0 : IsRow .u8 w a0 len0 cap0 z0) (hrb : cap0 * 1 ≤ 140737488351232) (a1 : Option Addr) (len1 cap1 : Nat) (items : List ItemV) (w1 : ElA (ItemIs w) 3 w a1 len1 cap1 items) :
    Calls Try.prog 10 #[.slice a0 len0 cap0, .slice a1 len1 cap1] w fun e w' => e = .returned (.bool true) ∧ Below w.heap.size w w' := by
  have hsl := sl_of_row w0
  have hwf := wf_of_row w0
  have hbd : ∀ x ∈ z0.take len0, 0 ≤ x ∧ x ≤ 255 := fun x hx => bounds_u8 (hwf x hx)
  have hr : len0 ≤ 140737488355328 := by have := hsl.le; omega
  have ha0 : ∀ x, a0 = some x → 0 < cap0 → x.block < w.heap.size := by
    intro x hx h0
    rcases w0 with ⟨h, _⟩ | ⟨y, hy, h1, h2, h3, h4, h5⟩
    · rw [h] at hx; cases hx
    · rw [hy] at hx
      injection hx with hx
      subst hx
      have := World.block_lt_of_cell? w _ (h4 0 (by omega))
      simpa [Addr.add] using this
  generalize z0.take len0 = l at *
  clear w0 hrb hwf
  have hm1 := w1.most
  unfold maxLen at hm1
  have hle1 := w1.le
  have hit : Hid (0 < len1 → ∃ b off, a1 = some ⟨b, off, none⟩ ∧ b < w.heap.size ∧ ∀ i (hi : i < items.length), (w.cell? ⟨b, off + i * 3, none⟩ = some (.int .u8 items[i].kind) ∧ w.cell? ⟨b, off + (i * 3 + 1), none⟩ = some (.int .i64 items[i].n) ∧ w.cell? ⟨b, off + (i * 3 + 2), none⟩ = some (.slice items[i].a items[i].len items[i].cap)) ∧
      (0 ≤ items[i].kind ∧ items[i].kind ≤ 255) ∧ (-9223372036854775808 ≤ items[i].n ∧ items[i].n ≤ 9223372036854775807) ∧ IsRow .u8 w items[i].a items[i].len items[i].cap items[i].z) := fun h => ElA.item w1 h
  have hil := w1.len
  have HIL := Lib.hid hil
  clear w1 hil
  have HBD := Lib.hid hbd
  clear hbd
  go_enter Try.func10, Try.ntmps10
  go_wp2_with fail
  refine (known_any w).mono ?_
  rintro e w2 ⟨rfl, hb2⟩
  have hsl2 := hsl.later hb2
  clear hsl
  go_wp2_with fail
  refine (new_any a0 len0 cap0 l w2 hsl2 hr).mono ?_
  rintro e w3 ⟨p, S, rfl, hrd, hp, hS, hb3⟩
  have hpw : w.heap.size ≤ p := Nat.le_trans hb2.size hp
  have hb3w := hb2.trans (hb3.mono hb2.size)
  have hsl3 := hsl2.later hb3
  have hll := hsl2.len
  have hb2s := hb2.size
  clear hb2 hb3 hsl2 hS hp
  go_wp2_with fail
  go_loopw [6, 7] (fun v i wr => ∃ (k : Nat) (a : Option Addr) (cap : Nat) (l' : List Int), k ≤ len1 ∧ k ≤ 200 ∧ i = .int .i64 k ∧ v = .slice a l'.length cap ∧ SlA .u8 wr a l'.length cap l' ∧ Rd wr p S l' ∧ (∀ x ∈ l', 0 ≤ x ∧ x ≤ 255) ∧ (∀ x, a = some x → 0 < cap → x.block < w.heap.size) ∧ Below w.heap.size w wr) (fun _ i _ => len1 - (intOf i).toNat)
  case atStart => exact ⟨0, a0, cap0, l, Nat.zero_le _, Nat.zero_le _, rfl, by rw [hll], by rw [hll]; exact hsl3, hrd, HBD.out, ha0, hb3w⟩
  case round =>
    clear hrd hsl3 hb3w HBD ha0
    obtain ⟨k, a, cap, l', hk, hk200, rfl, rfl, hs, hrd, hbd, ha, hbr⟩ := hrel
    by_cases hlt' : k < len1 ∧ k < 200
    · obtain ⟨hlt, hlt2⟩ := hlt'
      obtain ⟨b, off, rfl, hbw, hcs⟩ := hit.out (by omega)
      obtain ⟨⟨c0, c1, c2⟩, hkb, hnb, _⟩ := hcs k (by have := HIL.out; omega)
      have r0 := (hbr.cell (p := ⟨b, off + k * 3, none⟩) hbw).trans c0
      have r1 : wr.cell? ⟨b, off + k * 3 + 1, none⟩ = _ := (hbr.cell (p := ⟨b, off + (k * 3 + 1), none⟩) hbw).trans c1
      have r2 : wr.cell? ⟨b, off + k * 3 + 2, none⟩ = _ := (hbr.cell (p := ⟨b, off + (k * 3 + 2), none⟩) hbw).trans c2
      clear c0 c1 c2 hcs
      generalize items[k]'(by have := HIL.out; omega) = v at *
      go_wp2_with fail
      refine (reads_any p S l' a cap v wr hrd hs w.heap.size hpw ha hbd hkb hnb).mono ?_
      rintro e w4 ⟨a', cap', rfl, hs4, hrd4, ha4, hk4⟩
      have hb4 : Below w.heap.size w w4 := hbr.trans (hk4.below (by simp; exact hpw) hbr.size)
      have hbd4 : ∀ x ∈ left v l', 0 ≤ x ∧ x ≤ 255 := fun x hx => hbd x (left_mem v l' x hx)
      have HBD := Lib.hid hbd4
      have HA4 := Lib.hid ha4
      clear hrd hs ha hbd hbr hk4 r0 r1 r2 hbd4 ha4
      generalize left v l' = L at *
      go_wp2_with fail
      refine (left_any p S L _ hrd4).mono ?_
      rintro e w' ⟨rfl, rfl⟩
      go_wp2_with fail
      refine (rest_any p S L _ hrd4).mono ?_
      rintro e w5 ⟨v5, rfl, hown5, hb5⟩
      obtain ⟨a5, cap5, hv5, hsl5, _⟩ := sl_of_own hown5
      rw [hv5]
      clear hown5 hv5
      have hs5 := hs4.later hb5
      have hrd5 := hrd4.keep (Kept.of_below hb5 (Nat.le_refl _) []) (by simp) (by simp)
      have hb5w := hb4.trans (hb5.mono hb4.size)
      clear hs4 hrd4 hb4 hb5
      go_wp2_with fail
      refine (same_true _ _ L.length _ _ L _ hsl5 hs5).mono ?_
      rintro e w6 ⟨rfl, nq, hw6⟩
      have hs6 : SlA .u8 w6 a' L.length cap' L := by rw [hw6]; exact hs5.drewN _
      have hrd6 : Rd w6 p S L := by rw [hw6]; exact hrd5.keep ((Kept.refl [] w5).drewN _) (by simp) (by simp)
      have hb6 : Below w.heap.size w w6 := by rw [hw6]; exact below_drewN hb5w _
      clear hs5 hrd5 hb5w hw6 hsl5
      go_wp2_with fail
      go_roundw
      case rel => exact ⟨k + 1, a', cap', L, by omega, by omega, by go_num, rfl, hs6, hrd6, HBD.out, HA4.out, hb6⟩
      case measure => simp [intOf]; omega
    · have hke : ¬ (k < len1 ∧ k < 200) := hlt'
      clear hlt' hs hrd hbd ha
      by_cases hx1 : k < len1
      all_goals
        go_wp2_with fail
        refine (known_any _).mono ?_
        rintro e w7 ⟨rfl, hb7⟩
        go_wp2_with fail
        go_ret
        exact ⟨rfl, hbr.trans (hb7.mono hbr.size)⟩
end Go.Proofs.Ythkgdeehehjpmaa.oc
