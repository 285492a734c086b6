/-
  Alarms: the library's up and down.
-/
import Derived.Test.YtnioaaahkhephaaAlmL
namespace Go.Proofs.Ytnioaaahkhephaa.al
open Go.RowKit Go.Maps aid mem
attribute [local go_sem ↓] Go.wp_at_zero Go.wp_at_succ
set_option linter.unusedVariables false
set_option linter.unusedSimpArgs false

/-- a heap that may have been changed below n: at C, its names' places as they are -/
structure HS (C : Nat) (nm now : Int) (v : Value) (bm : Nat) (l : List Al) (n : Nat) (w0 : World) (l' : List Al) (D' : DataW Unit) (w : World) : Prop where
  q : QAt w C nm now v bm l' D'
  pl : Pl l' D'
  pm : PermN l l' n
  kept : Kept (bm :: blkV v) w0 w
abbrev Wd (l : List Al) : Prop := ∀ x ∈ l, -9223372036854775808 ≤ x.1 ∧ x.1 ≤ 9223372036854775807
theorem Wd.perm {l l' : List Al} (h : Wd l) (hp : l'.Perm l) : Wd l' := fun x hx => h x (hp.mem_iff.1 hx)
theorem HS.len {C : Nat} {nm now : Int} {v : Value} {bm : Nat} {l : List Al} {n : Nat} {w0 : World} {l' : List Al} {D' : DataW Unit} {w : World} (h : HS C nm now v bm l n w0 l' D' w) : l'.length = l.length := h.pm.perm.length_eq
theorem HS.later {C : Nat} {nm now : Int} {v : Value} {bm : Nat} {l : List Al} {n : Nat} {w0 : World} {l' : List Al} {D' : DataW Unit} {w W : World} (h : HS C nm now v bm l n w0 l' D' w) (hb : Below w.heap.size w W) : HS C nm now v bm l n w0 l' D' W :=
  ⟨h.q.later hb, h.pl, h.pm, h.kept.trans (Kept.of_below hb (Nat.le_refl _) _) (fun _ h => .inl h)⟩
theorem HS.cell {C : Nat} {nm now : Int} {v : Value} {bm : Nat} {l : List Al} {n : Nat} {w0 : World} {l' : List Al} {D' : DataW Unit} {w : World} (h : HS C nm now v bm l n w0 l' D' w) : w.cell? ⟨C, 2, none⟩ = some v := cofr h.q.hdr 2 _ rfl
theorem enter_less (args : Array Value) (w : World) : (callFunc 55 args).run Try.prog w = .ok (.enter 55 args) w := by kernel_rfl
theorem enter_swap (args : Array Value) (w : World) : (callFunc 58 args).run Try.prog w = .ok (.enter 58 args) w := by kernel_rfl
set_option maxRecDepth 100000 in
set_option maxHeartbeats 4000000 in
theorem up_any {w : World} {C : Nat} {nm now : Int} {v : Value} {bm : Nat} {l : List Al} {D : DataW Unit} (h : QAt w C nm now v bm l D) (hP : Pl l D) (hW : Wd l) (hl : l.length ≤ 100000) {n j : Nat} (hn : n ≤ l.length) (hj : j < n) (hU : Up l n j) :
    Calls Try.prog 37 #[.iface 73 (.pointer (some ⟨C, 2, none⟩)), .int .i64 j] w (fun e w' => e = .returned (.tuple #[]) ∧ ∃ l' D', HS C nm now v bm l n w l' D' w' ∧ HeapN l' n) := by
  have HK : Hid (∃ l' D', HS C nm now v bm l n w l' D' w ∧ Up l' n j) := Lib.hid ⟨l, D, ⟨h, hP, PermN.refl _ _, Kept.refl _ _⟩, hU⟩
  clear h hP hU
  go_enter Try.func37, Try.ntmps37
  go_wp2_with fail
  go_loopw [1] (fun s1 wr => ∃ k : Nat, k < n ∧ s1 = .int .i64 k ∧ Hid (∃ l' D', HS C nm now v bm l n w l' D' wr ∧ Up l' n k)) (fun s1 _ => (intOf s1).toNat)
  case atStart => exact ⟨j, hj, rfl, HK⟩
  case round =>
    clear HK
    obtain ⟨k, hk, rfl, HR⟩ := hrel
    obtain ⟨l', D', K, hU⟩ := HR.out
    have hlen := K.len
    have hW' := hW.perm K.pm.perm
    by_cases h0 : k = 0
    · subst h0
      have HF := Lib.hid (show ∃ l' D', HS C nm now v bm l n w l' D' wr ∧ HeapN l' n from ⟨l', D', K, up_end hU (.inl rfl)⟩)
      clear HR K hU
      go_wp2_with fail
      go_end0
      exact ⟨rfl, HF.out⟩
    · obtain ⟨p, hp⟩ : ∃ p : Nat, p = par k := ⟨_, rfl⟩
      have hpk : p < k := by rw [hp]; unfold par; omega
      have hq : ((k : Int) - 1).tdiv 2 = (p : Int) := by
        rw [Int.tdiv_eq_ediv_of_nonneg (by omega), hp]; unfold par; omega
      have hc := K.cell
      have mL := fun n => meth_less hc n
      have eL := enter_less
      have HL := Lib.hid (less_any K.q.row (i := k) (j := p) (by omega) (by omega))
      have HUS := Lib.hid (fun (h : lt (g l' k) (g l' p) = true) => show Up (swp l' p k) n p from by rw [hp] at h ⊢; exact up_step hU (by omega) hk (by omega) h)
      have HUE := Lib.hid (fun (h : lt (g l' k) (g l' p) = false) => show HeapN l' n from up_end hU (.inr (by rw [← hp]; exact h)))
      have HKK := Lib.hid K
      clear HR K hU hp hc
      cases hlt : lt (g l' k) (g l' p)
      · rw [hlt] at HL
        have HF0 := HUE.out hlt
        have HF2 := Lib.hid (fun (W : World) (h : Below wr.heap.size wr W) => show ∃ l' D', HS C nm now v bm l n w l' D' W ∧ HeapN l' n from ⟨l', D', HKK.out.later h, HF0⟩)
        clear HUS HUE hlt HF0
        go_wp2_with (go_at_call 55; refine HL.out.mono ?_; rintro e w2 ⟨rfl, h2⟩)
        go_end0
        exact ⟨rfl, let ⟨l', D', K, hh⟩ := HF2.out w2 h2; ⟨l', D', K, hh⟩⟩
      · rw [hlt] at HL
        have HU2 := Lib.hid (HUS.out hlt)
        clear HUS HUE hlt
        have hq2 := hlen
        have HS2 := Lib.hid (fun (W : World) (h : Below wr.heap.size wr W) => swap_any (HKK.out.later h).q (i := p) (j := k) (by omega) (by omega) (by omega) HKK.out.pl hW')
        have HPM := Lib.hid (HKK.out.pm.trans (PermN.swp (i := p) (j := k) (by omega) (by omega) hk))
        have mS := fun n w => meth_swap C n w
        have eS := enter_swap
        go_wp2_with (first
          | (go_at_call 55; refine HL.out.mono ?_; rintro e w2 ⟨rfl, h2⟩)
          | (go_at_call 58; refine (HS2.out _ h2).mono ?_; rintro e w3 ⟨rfl, D3, q3, p3, k3⟩))
        have HK3 : Hid (∃ l' D', HS C nm now v bm l n w l' D' w3 ∧ Up l' n p) := Lib.hid ⟨_, D3, ⟨q3, p3, HPM.out, (HKK.out.later h2).kept.trans k3 (fun _ h => .inl h)⟩, HU2.out⟩
        clear q3 p3 k3 h2 HKK HPM HS2 HU2 HL mS eS mL eL
        go_roundw
        case rel => exact ⟨p, by omega, by go_num, HK3⟩
        case measure => simp [intOf]; omega
/-- what down leaves -/
def DnPost (C : Nat) (nm now : Int) (v : Value) (bm : Nat) (l : List Al) (n i0 : Nat) (w : World) (e : Ending) (w' : World) : Prop :=
  ∃ l' D' m, e = .returned (.bool m) ∧ HS C nm now v bm l n w l' D' w' ∧ DnEnd l' n i0 m ∧ (m = false → Dn l' n i0 i0)
set_option maxRecDepth 100000 in
set_option maxHeartbeats 8000000 in
theorem down_any {w : World} {C : Nat} {nm now : Int} {v : Value} {bm : Nat} {l : List Al} {D : DataW Unit} (h : QAt w C nm now v bm l D) (hP : Pl l D) (hW : Wd l) (hl : l.length ≤ 100000) {n i0 : Nat} (hn : n ≤ l.length) (hi : i0 < n) (hU : Dn l n i0 i0) :
    Calls Try.prog 36 #[.iface 73 (.pointer (some ⟨C, 2, none⟩)), .int .i64 i0, .int .i64 n] w (DnPost C nm now v bm l n i0 w) := by
  have HK : Hid (∃ l' D', HS C nm now v bm l n w l' D' w ∧ Dn l' n i0 i0) := Lib.hid ⟨l, D, ⟨h, hP, PermN.refl _ _, Kept.refl _ _⟩, hU⟩
  clear h hP hU
  go_enter Try.func36, Try.ntmps36
  go_wp2_with fail
  go_loopw [7] (fun s7 wr => ∃ k : Nat, i0 ≤ k ∧ k < n ∧ s7 = .int .i64 k ∧ Hid (∃ l' D', HS C nm now v bm l n w l' D' wr ∧ Dn l' n i0 k)) (fun s7 _ => n - (intOf s7).toNat)
  case atStart => exact ⟨i0, Nat.le_refl _, hi, rfl, HK⟩
  case round =>
    clear HK
    obtain ⟨k, hik, hk, rfl, HR⟩ := hrel
    obtain ⟨l', D', K, hU⟩ := HR.out
    have hlen := K.len
    have hW' := hW.perm K.pm.perm
    obtain ⟨j1, hj1⟩ : ∃ j1 : Nat, (2 : Int) * (k : Int) + 1 = (j1 : Int) := ⟨2 * k + 1, by omega⟩
    obtain ⟨j2, hj2⟩ : ∃ j2 : Nat, (j1 : Int) + 1 = (j2 : Int) := ⟨j1 + 1, by omega⟩
    have hE := Lib.hid (fun (hs : ∀ c, 0 < c → c < n → par c = k → lt (g l' c) (g l' k) = false) (W : World) (hb : Below wr.heap.size wr W) => show DnPost C nm now v bm l n i0 w (.returned (.bool (decide (i0 < k)))) W from
      ⟨l', D', _, rfl, K.later hb, dn_end hU hik hs, fun e => by
        have : ¬ i0 < k := of_decide_eq_false e
        obtain rfl : i0 = k := by omega
        exact hU⟩)
    by_cases hA : j1 < n
    · have mL := fun (W : World) (hb : Below wr.heap.size wr W) n => meth_less (K.later hb).cell n
      have mL0 := mL wr (Below.refl _ _)
      have eL := enter_less
      have mS := fun n w => meth_swap C n w
      have eS := enter_swap
      have HLS := Lib.hid (fun (W : World) (hb : Below wr.heap.size wr W) (a b : Nat) (ha : a < n) (hb2 : b < n) => less_any (K.later hb).q.row (i := a) (j := b) (by omega) (by omega))
      have HSW := Lib.hid (fun (W : World) (hb : Below wr.heap.size wr W) (j : Nat) (hj : j < n) => swap_any (K.later hb).q (i := k) (j := j) (by omega) (by omega) (by omega) K.pl hW')
      have HNX := Lib.hid (fun (j : Nat) (hj : j < n) (hp : par j = k) (hj0 : 0 < j) (hl : lt (g l' j) (g l' k) = true) (hs : ∀ c, 0 < c → c < n → par c = k → lt (g l' c) (g l' j) = false) (W X : World) (hb : Below wr.heap.size wr W) (D3 : DataW Unit) (q3 : QAt X C nm now v bm (swp l' k j) D3) (p3 : Pl (swp l' k j) D3) (k3 : Kept (bm :: blkV v) W X) =>
        show ∃ l' D', HS C nm now v bm l n w l' D' X ∧ Dn l' n i0 j from
        ⟨_, D3, ⟨q3, p3, K.pm.trans (PermN.swp (by omega) hk hj), (K.later hb).kept.trans k3 (fun _ h => .inl h)⟩, dn_step hU (by omega) hik hj hp hj0 hl hs⟩)
      have HEJ := Lib.hid (fun (j : Nat) (hl : lt (g l' j) (g l' k) = false) (hs : ∀ c, 0 < c → c < n → par c = k → lt (g l' c) (g l' j) = false) => show ∀ c, 0 < c → c < n → par c = k → lt (g l' c) (g l' k) = false from
        fun c c0 hc hp => nlt_trans (hs c c0 hc hp) hl)
      have HSM := Lib.hid (fun j h1 h2 h3 => small_child (l := l') (n := n) (i := k) (j := j) h1 h2 h3)
      clear HR K hU
      by_cases hB : j2 < n
      · cases hlt : lt (g l' j2) (g l' j1)
        · skip
          have hs := HSM.out j1 (.inl (by omega)) (fun e => absurd e (by omega)) (fun _ _ => by rw [show 2 * k + 2 = j2 by omega]; exact hlt)
          have hpj : par j1 = k := by unfold par; omega
          have HL1 := Lib.hid (HLS.out wr (Below.refl _ _) j2 j1 hB hA)
          rw [hlt] at HL1
          go_wp2_with fail
          refine HL1.out.mono ?_
          rintro e w2 ⟨rfl, h2⟩
          have mL2 := mL w2 h2
          have HL2 := Lib.hid (HLS.out w2 h2 j1 k (by omega) hk)
          cases hl2 : lt (g l' j1) (g l' k)
          · rw [hl2] at HL2
            have HF := Lib.hid (fun W hb => hE.out (HEJ.out j1 hl2 hs) W hb)
            go_wp2_with fail
            refine HL2.out.mono ?_
            rintro e w4 ⟨rfl, h4⟩
            have HF4 := Lib.hid (HF.out w4 (h2.trans (h4.mono h2.size)))
            clear HF HL2 HNX HEJ HSM HSW HLS mL hE h4 h2
            go_wp2_with fail
            go_ret
            exact HF4.out
          · rw [hl2] at HL2
            have HN := Lib.hid (HNX.out j1 (by omega) hpj (by omega) hl2 hs)
            go_wp2_with fail
            refine HL2.out.mono ?_
            rintro e w4 ⟨rfl, h4⟩
            have hb4 := h2.trans (h4.mono h2.size)
            have HSW4 := Lib.hid (HSW.out w4 hb4 j1 (by omega))
            clear HL2 HNX HEJ HSM HSW HLS mL hE
            go_wp2_with fail
            refine HSW4.out.mono ?_
            rintro e w5 ⟨rfl, D5, q5, p5, k5⟩
            have HK5 : Hid (∃ l' D', HS C nm now v bm l n w l' D' w5 ∧ Dn l' n i0 j1) := Lib.hid (HN.out w4 w5 hb4 D5 q5 p5 k5)
            clear HN HSW4 q5 p5 k5 hb4 h4 h2
            go_wp2_with fail
            go_roundw
            case rel => exact ⟨j1, by omega, by omega, by go_num, HK5⟩
            case measure => simp [intOf]; omega
        · skip
          have hs := HSM.out j2 (.inr (by omega)) (fun _ => by rw [show 2 * k + 1 = j1 by omega]; exact hlt) (fun e => absurd e (by omega))
          have hpj : par j2 = k := by unfold par; omega
          have HL1 := Lib.hid (HLS.out wr (Below.refl _ _) j2 j1 hB hA)
          rw [hlt] at HL1
          go_wp2_with fail
          refine HL1.out.mono ?_
          rintro e w2 ⟨rfl, h2⟩
          have mL2 := mL w2 h2
          have HL2 := Lib.hid (HLS.out w2 h2 j2 k (by omega) hk)
          cases hl2 : lt (g l' j2) (g l' k)
          · rw [hl2] at HL2
            have HF := Lib.hid (fun W hb => hE.out (HEJ.out j2 hl2 hs) W hb)
            go_wp2_with fail
            refine HL2.out.mono ?_
            rintro e w4 ⟨rfl, h4⟩
            have HF4 := Lib.hid (HF.out w4 (h2.trans (h4.mono h2.size)))
            clear HF HL2 HNX HEJ HSM HSW HLS mL hE h4 h2
            go_wp2_with fail
            go_ret
            exact HF4.out
          · rw [hl2] at HL2
            have HN := Lib.hid (HNX.out j2 (by omega) hpj (by omega) hl2 hs)
            go_wp2_with fail
            refine HL2.out.mono ?_
            rintro e w4 ⟨rfl, h4⟩
            have hb4 := h2.trans (h4.mono h2.size)
            have HSW4 := Lib.hid (HSW.out w4 hb4 j2 (by omega))
            clear HL2 HNX HEJ HSM HSW HLS mL hE
            go_wp2_with fail
            refine HSW4.out.mono ?_
            rintro e w5 ⟨rfl, D5, q5, p5, k5⟩
            have HK5 : Hid (∃ l' D', HS C nm now v bm l n w l' D' w5 ∧ Dn l' n i0 j2) := Lib.hid (HN.out w4 w5 hb4 D5 q5 p5 k5)
            clear HN HSW4 q5 p5 k5 hb4 h4 h2
            go_wp2_with fail
            go_roundw
            case rel => exact ⟨j2, by omega, by omega, by go_num, HK5⟩
            case measure => simp [intOf]; omega
      · skip
        have hs := HSM.out j1 (.inl (by omega)) (fun e => absurd e (by omega)) (fun _ h => absurd h (by omega))
        have hpj : par j1 = k := by unfold par; omega
        have HL2 := Lib.hid (HLS.out wr (Below.refl _ wr) j1 k (by omega) hk)
        cases hl2 : lt (g l' j1) (g l' k)
        · rw [hl2] at HL2
          have HF := Lib.hid (fun W hb => hE.out (HEJ.out j1 hl2 hs) W hb)
          go_wp2_with fail
          refine HL2.out.mono ?_
          rintro e w4 ⟨rfl, h4⟩
          have HF4 := Lib.hid (HF.out w4 (h4))
          clear HF HL2 HNX HEJ HSM HSW HLS mL hE h4
          go_wp2_with fail
          go_ret
          exact HF4.out
        · rw [hl2] at HL2
          have HN := Lib.hid (HNX.out j1 (by omega) hpj (by omega) hl2 hs)
          go_wp2_with fail
          refine HL2.out.mono ?_
          rintro e w4 ⟨rfl, h4⟩
          have hb4 := h4
          have HSW4 := Lib.hid (HSW.out w4 hb4 j1 (by omega))
          clear HL2 HNX HEJ HSM HSW HLS mL hE
          go_wp2_with fail
          refine HSW4.out.mono ?_
          rintro e w5 ⟨rfl, D5, q5, p5, k5⟩
          have HK5 : Hid (∃ l' D', HS C nm now v bm l n w l' D' w5 ∧ Dn l' n i0 j1) := Lib.hid (HN.out w4 w5 hb4 D5 q5 p5 k5)
          clear HN HSW4 q5 p5 k5 hb4 h4
          go_wp2_with fail
          go_roundw
          case rel => exact ⟨j1, by omega, by omega, by go_num, HK5⟩
          case measure => simp [intOf]; omega
    · have hs0 : ∀ c, 0 < c → c < n → par c = k → lt (g l' c) (g l' k) = false := fun c c0 hc hp => by unfold par at hp; omega
      have HF := Lib.hid (hE.out hs0 wr (Below.refl _ _))
      clear HR K hU hs0 hE
      go_wp2_with fail
      go_ret
      exact HF.out
end Go.Proofs.Ytnioaaahkhephaa.al
