/-
  Alarms: the library's Fix, Push, Remove.
-/
import Derived.Test.YtnioaaahkhephaaAlmR
namespace Go.Proofs.Ytnioaaahkhephaa.al
open Go.RowKit Go.Maps aid mem
attribute [local go_sem ↓] Go.wp_at_zero Go.wp_at_succ
set_option linter.unusedVariables false
set_option linter.unusedSimpArgs false

theorem enter_len (args : Array Value) (w : World) : (callFunc 29 args).run Try.prog w = .ok (.enter 29 args) w := by kernel_rfl
theorem enter_push (args : Array Value) (w : World) : (callFunc 57 args).run Try.prog w = .ok (.enter 57 args) w := by kernel_rfl
theorem enter_pop (args : Array Value) (w : World) : (callFunc 56 args).run Try.prog w = .ok (.enter 56 args) w := by kernel_rfl
theorem HS.trans {C : Nat} {nm now : Int} {v : Value} {bm : Nat} {l l1 l2 : List Al} {n : Nat} {w w1 w2 : World} {D1 D2 : DataW Unit} (h : HS C nm now v bm l n w l1 D1 w1) (k : HS C nm now v bm l1 n w1 l2 D2 w2) : HS C nm now v bm l n w l2 D2 w2 :=
  ⟨k.q, k.pl, h.pm.trans k.pm, h.kept.trans k.kept (fun _ h => .inl h)⟩
theorem chg_hs {C : Nat} {nm now : Int} {v v1 : Value} {bm : Nat} {l1 l' : List Al} {n : Nat} {w w1 w' : World} {D' : DataW Unit} (hk : Kept (C :: bm :: blkV v) w w1) (hv : ∀ k ∈ blkV v1, k ∈ blkV v ∨ w.heap.size ≤ k) (hs : HS C nm now v1 bm l1 n w1 l' D' w') : QChg C nm now v bm l' w w' :=
  ⟨v1, D', hs.q, hs.pl, hk.trans hs.kept (fun k hk => by
    rcases List.mem_cons.1 hk with e | e
    · exact .inl (by simp [e])
    · rcases hv k e with q | q
      · exact .inl (by simp [q])
      · exact .inr q), hv⟩
theorem chg_after {C : Nat} {nm now : Int} {v : Value} {bm : Nat} {l1 l2 l' : List Al} {n : Nat} {w w1 w' : World} {D1 : DataW Unit} (hs : HS C nm now v bm l1 n w l2 D1 w1) (h : QChg C nm now v bm l' w1 w') : QChg C nm now v bm l' w w' := by
  obtain ⟨v', D', q, p, k, hv⟩ := h
  exact ⟨v', D', q, p, (hs.kept.mono (S' := C :: bm :: blkV v) (fun k hk => .inl (by simp at hk; simp [hk]))).trans k (fun _ h => .inl h), fun k hk => (hv k hk).imp id (fun e => Nat.le_trans hs.kept.size e)⟩
theorem heap_take {l : List Al} {n : Nat} (h : HeapN l n) : HeapN (l.take n) n := fun k k0 hk => by
  rw [g_take hk, g_take (by unfold par; omega)]; exact h k k0 hk
theorem take_perm {l l2 : List Al} {n : Nat} {x : Al} (hn : l2.length = n + 1) (hp : l2.Perm l) (hx : g l2 n = x) : (x :: l2.take n).Perm l := by
  have e := take_last hn
  rw [hx] at e
  have : (x :: l2.take n).Perm (l2.take n ++ [x]) := (List.perm_append_singleton x (l2.take n)).symm
  exact this.trans (e ▸ hp)
theorem perm_snoc {l l' : List Al} {x : Al} (h : l'.Perm (l ++ [x])) : l'.Perm (x :: l) := h.trans (List.perm_append_singleton x l)
theorem wd_snoc {l : List Al} {x : Al} (h : Wd l) (hx : -9223372036854775808 ≤ x.1 ∧ x.1 ≤ 9223372036854775807) : Wd (l ++ [x]) := fun y hy => by
  rcases List.mem_append.1 hy with q | q
  · exact h y q
  · simp at q; rw [q]; exact hx
set_option maxRecDepth 100000 in
set_option maxHeartbeats 4000000 in
theorem hpush_any {w : World} {C : Nat} {nm now : Int} {v : Value} {bm : Nat} {l : List Al} {D : DataW Unit} (h : QAt w C nm now v bm l D) (hP : Pl l D) (hW : Wd l) (hH : HeapN l l.length) (hl : l.length ≤ 90000) (x : Al) (hx : ∀ y ∈ l, y.1 ≠ x.1)
    (hxw : -9223372036854775808 ≤ x.1 ∧ x.1 ≤ 9223372036854775807) :
    Calls Try.prog 31 #[.iface 73 (.pointer (some ⟨C, 2, none⟩)), .iface 71 (.agg #[.int .i64 x.1, .int .i64 x.2])] w (fun e w' => e = .returned (.tuple #[]) ∧ ∃ l', QChg C nm now v bm l' w w' ∧ l'.Perm (x :: l) ∧ HeapN l' l'.length) := by
  have HP := Lib.hid (push_any h hP (by omega) x hx hxw)
  have hUp := push_up hH x
  have hWd := wd_snoc hW hxw
  have mP := fun n w => meth_push C n w
  have eP := enter_push
  have HU := Lib.hid (fun (w1 : World) (hc : QChg C nm now v bm (l ++ [x]) w w1) => show ∃ v1 : Value, (∃ a cap, v1 = .slice a (l.length + 1) cap) ∧ w1.cell? ⟨C, 2, none⟩ = some v1 ∧
      Calls Try.prog 37 #[.iface 73 (.pointer (some ⟨C, 2, none⟩)), .int .i64 (l.length : Nat)] w1 (fun e w' => e = .returned (.tuple #[]) ∧ ∃ l', QChg C nm now v bm l' w w' ∧ l'.Perm (x :: l) ∧ HeapN l' l'.length) from by
    obtain ⟨v1, D1, q, p, k, hv⟩ := hc
    have hlen : (l ++ [x]).length = l.length + 1 := by simp
    obtain ⟨b, cap, hv1, _⟩ := q.read (i := 0) (by omega)
    rw [hlen] at hv1
    refine ⟨v1, ⟨_, _, hv1⟩, cofr q.hdr 2 _ rfl, (up_any q p hWd (by omega) (n := l.length + 1) (j := l.length) (by omega) (by omega) hUp).mono ?_⟩
    rintro e w' ⟨rfl, l', D', hs, hh⟩
    have hl' := hs.len
    exact ⟨rfl, l', chg_hs k hv hs, perm_snoc hs.pm.perm, by rw [hl', hlen]; exact hh⟩)
  clear h hP hUp hWd hH hW
  go_enter Try.func31, Try.ntmps31
  go_wp2_with fail
  refine HP.out.mono ?_
  rintro e w1 ⟨rfl, hc⟩
  obtain ⟨v1, ⟨a1, cap1, rfl⟩, hc2, hU⟩ := HU.out w1 hc
  have mL := fun n => meth_len hc2 n
  have eL := enter_len
  have HUU := Lib.hid hU
  clear hc hU HP mP eP HU
  go_wp2_with (go_at_call 29; refine (len_list _ _ _ _).mono ?_; rintro e w2 ⟨rfl, rfl⟩)
  refine HUU.out.mono ?_
  rintro e w3 ⟨rfl, hF⟩
  have HF := Lib.hid hF
  clear hF HUU mL eL hc2
  go_wp2_with fail
  go_end0
  exact ⟨rfl, HF.out⟩
set_option maxRecDepth 100000 in
set_option maxHeartbeats 4000000 in
theorem fix_any {w : World} {C : Nat} {nm now : Int} {v : Value} {bm : Nat} {l : List Al} {D : DataW Unit} (h : QAt w C nm now v bm l D) (hP : Pl l D) (hW : Wd l) (hl : l.length ≤ 90000) {i : Nat} (hi : i < l.length) (hD : Dn l l.length i i) :
    Calls Try.prog 30 #[.iface 73 (.pointer (some ⟨C, 2, none⟩)), .int .i64 i] w (fun e w' => e = .returned (.tuple #[]) ∧ ∃ l' D', HS C nm now v bm l l.length w l' D' w' ∧ HeapN l' l.length) := by
  obtain ⟨b, cap, hv1, _⟩ := h.read hi
  have hc2 := cofr h.hdr 2 _ rfl
  have mL := fun n => meth_len hc2 n
  have eL := enter_len
  have HDN := Lib.hid (down_any h hP hW (by omega) (n := l.length) (i0 := i) (Nat.le_refl _) hi hD)
  have HU := Lib.hid (fun (l1 : List Al) (D1 : DataW Unit) (w1 : World) (hs : HS C nm now v bm l l.length w l1 D1 w1) (hU : Up l1 l.length i) => (up_any hs.q hs.pl (hW.perm hs.pm.perm) (by have := hs.len; omega) (n := l.length) (j := i) (by have := hs.len; omega) hi hU).mono (fun e w' hh =>
    show e = .returned (.tuple #[]) ∧ ∃ l' D', HS C nm now v bm l l.length w l' D' w' ∧ HeapN l' l.length from by
      obtain ⟨rfl, l', D', hs', hh⟩ := hh
      exact ⟨rfl, l', D', hs.trans hs', hh⟩))
  clear h hP hW hD
  subst hv1
  go_enter Try.func30, Try.ntmps30
  go_wp2_with (go_at_call 29; refine (len_list _ _ _ _).mono ?_; rintro e w2 ⟨rfl, rfl⟩)
  refine HDN.out.mono ?_
  rintro e w1 ⟨l1, D1, m, rfl, hs, he, hd⟩
  cases m
  · have HU1 := Lib.hid (HU.out l1 D1 w1 hs (dn_up (hd rfl) he))
    clear HU HDN hs he hd mL eL hc2
    go_wp2_with fail
    refine HU1.out.mono ?_
    rintro e w3 ⟨rfl, hF⟩
    have HF := Lib.hid hF
    clear hF HU1
    go_wp2_with fail
    go_end0
    exact ⟨rfl, HF.out⟩
  · have HF := Lib.hid (show ∃ l' D', HS C nm now _ bm l l.length w l' D' w1 ∧ HeapN l' l.length from ⟨l1, D1, hs, dn_moved he⟩)
    clear HU HDN hs he hd mL eL hc2
    go_wp2_with fail
    go_end0
    exact ⟨rfl, HF.out⟩
end Go.Proofs.Ytnioaaahkhephaa.al
