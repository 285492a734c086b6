/-
  Alarms: the library's Remove.
-/
import Derived.Test.YtnioaaahkhephaaAlmS
namespace Go.Proofs.Ytnioaaahkhephaa.al
open Go.RowKit Go.Maps aid mem
attribute [local go_sem ↓] Go.wp_at_zero Go.wp_at_succ
set_option linter.unusedVariables false
set_option linter.unusedSimpArgs false

set_option maxRecDepth 100000 in
set_option maxHeartbeats 4000000 in
theorem remove_any {w : World} {C : Nat} {nm now : Int} {v : Value} {bm : Nat} {l : List Al} {D : DataW Unit} (h : QAt w C nm now v bm l D) (hP : Pl l D) (hW : Wd l) (hH : HeapN l l.length) (hl : l.length ≤ 90000) {i n : Nat} (hn : l.length = n + 1) (hi : i < l.length) :
    Calls Try.prog 32 #[.iface 73 (.pointer (some ⟨C, 2, none⟩)), .int .i64 i] w (fun e w' => (∃ u, e = .returned u) ∧ ∃ l', QChg C nm now v bm l' w w' ∧ (g l i :: l').Perm l ∧ HeapN l' l'.length) := by
  obtain ⟨b, cap, hv1, _⟩ := h.read hi
  have hc2 := cofr h.hdr 2 _ rfl
  have mL := fun n => meth_len hc2 n
  have eL := enter_len
  have mP := fun n w => meth_pop C n w
  have eP := enter_pop
  have HPP := Lib.hid (fun (l2 : List Al) (D2 : DataW Unit) (w2 : World) (l1 : List Al) (m : Nat) (hs : HS C nm now v bm l1 m w l2 D2 w2) (hp : l2.Perm l) (hx : g l2 n = g l i) (hh : HeapN l2 n) => (pop_any hs.q hs.pl (by rw [hp.length_eq]; omega) (n := n) (by rw [hp.length_eq]; exact hn) (hW.perm hp)).mono (fun e w' hh' =>
    show (∃ u, e = .returned u) ∧ ∃ l', QChg C nm now v bm l' w w' ∧ (g l i :: l').Perm l ∧ HeapN l' l'.length from by
      obtain ⟨hu, hc⟩ := hh'
      have hl2 : l2.length = n + 1 := by rw [hp.length_eq]; exact hn
      exact ⟨hu, _, chg_after hs hc, take_perm hl2 hp hx, by
        have : (l2.take n).length = n := by rw [List.length_take]; omega
        rw [this]; exact heap_take hh⟩))
  by_cases hin : i = n
  · subst hin
    have HP := Lib.hid (HPP.out l D w l 0 ⟨h, hP, PermN.refl _ _, Kept.refl _ _⟩ (.refl _) rfl (fun k k0 hk => hH k k0 (by omega)))
    clear h hP hW hH HPP
    subst hv1
    rw [hn] at *
    go_enter Try.func32, Try.ntmps32
    go_wp2_with (go_at_call 29; refine (len_list _ _ _ _).mono ?_; rintro e w2 ⟨rfl, rfl⟩)
    refine HP.out.mono ?_
    rintro e w1 ⟨⟨u, rfl⟩, hF⟩
    have HF := Lib.hid hF
    clear hF HP mL eL mP eP hc2
    go_wp2_with fail
    go_ret
    exact ⟨⟨_, rfl⟩, HF.out⟩
  · have hin' : i < n := by omega
    have hsl := swp_len l i n
    have hsp := swp_perm (l := l) (i := i) (j := n) hi (by omega)
    have HSW := Lib.hid (swap_any h (i := i) (j := n) hi (by omega) (by omega) hP hW)
    have hgn : g (swp l i n) n = g l i := by rw [g_swp hi (by omega), if_pos rfl]
    have hrd := rem_dn (l := l) (n := n) (i := i) (fun k k0 hk => hH k k0 (by omega)) hn hin'
    have HDN := Lib.hid (fun (w1 : World) (D1 : DataW Unit) (q1 : QAt w1 C nm now v bm (swp l i n) D1) (p1 : Pl (swp l i n) D1) => down_any q1 p1 (hW.perm hsp) (by omega) (n := n) (i0 := i) (by omega) hin' hrd)
    have HU := Lib.hid (fun (l1 l2 : List Al) (D2 : DataW Unit) (w1 w2 : World) (hs : HS C nm now v bm l1 n w1 l2 D2 w2) (hp : l1.Perm l) (hU : Up l2 n i) => (up_any hs.q hs.pl (hW.perm (hs.pm.perm.trans hp)) (by have := hs.len; have := hp.length_eq; omega) (n := n) (j := i) (by have := hs.len; have := hp.length_eq; omega) hin' hU).mono (fun e w' hh =>
      show e = .returned (.tuple #[]) ∧ ∃ l' D', HS C nm now v bm l1 n w1 l' D' w' ∧ HeapN l' n from by
        obtain ⟨rfl, l', D', hs', hh⟩ := hh
        exact ⟨rfl, l', D', hs.trans hs', hh⟩))
    have HPN := Lib.hid (fun (l2 : List Al) (D2 : DataW Unit) (w1 w2 : World) (hk1 : Kept (bm :: blkV v) w w1) (hs : HS C nm now v bm (swp l i n) n w1 l2 D2 w2) (hh : HeapN l2 n) =>
      HPP.out l2 D2 w2 (swp l i n) n ⟨hs.q, hs.pl, hs.pm, hk1.trans hs.kept (fun _ h => .inl h)⟩ (hs.pm.perm.trans hsp) (by rw [hs.pm.out n (Nat.le_refl _)]; exact hgn) hh)
    have HSP := Lib.hid hsp
    clear h hP hW hH HPP hgn hrd hsp hsl mP eP
    subst hv1
    rw [hn] at hc2 mL
    have mS := fun n w => meth_swap C n w
    have eS := enter_swap
    go_enter Try.func32, Try.ntmps32
    set_option maxHeartbeats 400000 in
    go_wp2_with (go_at_call 29; refine (len_list _ _ _ _).mono ?_; rintro e w2 ⟨rfl, rfl⟩)
    refine HSW.out.mono ?_
    rintro e w1 ⟨rfl, D1, q1, p1, k1⟩
    have HDN1 := Lib.hid (HDN.out w1 D1 q1 p1)
    have HK1 := Lib.hid k1
    clear q1 p1 k1 HSW HDN mL eL hc2 mS eS
    go_wp2_with fail
    refine HDN1.out.mono ?_
    rintro e w3 ⟨l3, D3, m, rfl, hs, he, hd⟩
    cases m
    · have HU1 := Lib.hid (HU.out _ l3 D3 w1 w3 hs HSP.out (dn_up (hd rfl) he))
      clear HU HDN1 hs he hd
      go_wp2_with fail
      refine HU1.out.mono ?_
      rintro e w4 ⟨rfl, l4, D4, hs4, hh4⟩
      have HP4 := Lib.hid (HPN.out l4 D4 w1 w4 HK1.out hs4 hh4)
      clear hs4 hh4 HU1 HPN HK1
      have mP := fun n w => meth_pop C n w
      have eP := enter_pop
      go_wp2_with fail
      refine HP4.out.mono ?_
      rintro e w5 ⟨⟨u, rfl⟩, hF⟩
      have HF := Lib.hid hF
      clear hF HP4 mP eP
      go_wp2_with fail
      go_ret
      exact ⟨⟨_, rfl⟩, HF.out⟩
    · have HP4 := Lib.hid (HPN.out l3 D3 w1 w3 HK1.out hs (dn_moved he))
      clear HU HDN1 hs he hd HPN HK1
      have mP := fun n w => meth_pop C n w
      have eP := enter_pop
      go_wp2_with fail
      refine HP4.out.mono ?_
      rintro e w5 ⟨⟨u, rfl⟩, hF⟩
      have HF := Lib.hid hF
      clear hF HP4 mP eP
      go_wp2_with fail
      go_ret
      exact ⟨⟨_, rfl⟩, HF.out⟩
end Go.Proofs.Ytnioaaahkhephaa.al
