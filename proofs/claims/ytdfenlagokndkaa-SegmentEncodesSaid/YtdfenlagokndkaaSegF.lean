/-
  Package segment: the third and the fourth look of Decode, of what was encoded.
-/
import Derived.Test.YtdfenlagokndkaaSegD
namespace Go.Proofs.Ytdfenlagokndkaa.sg
open Go.RowKit aid mem oc op sm
attribute [local go_sem ↓] Go.wp_at_zero Go.wp_at_succ
set_option linter.unusedVariables false
section
variable {w0 : World} {N p Q : Nat} {S : List Nat} {Z : Int} {l : List Int} {s : Seg} {a : Option Addr} {n cap : Nat} {b : Option Addr} {m bc : Nat} {w : World}
theorem DS.lts (h : DS w0 N p Q S Z l s a n cap b m bc w) : p < w.heap.size ∧ Q < w.heap.size ∧ N + 3 < w.heap.size := by
  obtain ⟨_, _, hp, _⟩ := h.rd.ex
  exact ⟨World.block_lt_of_cell? w _ hp, h.seg.lt, World.block_lt_of_cell? w _ h.cz⟩

set_option maxRecDepth 100000 in
set_option maxHeartbeats 3200000 in
theorem dlook3 (k : Nat) (eo : List Int) (o : Opt) (h : DS w0 N p Q S (k : Int) (eo ++ l) s a n cap b m bc w) (hk : eo.length = k) (hb : Bd eo) (hp : parseL eo = (o, 0)) :
    Calls Try.prog 90 #[.pointer (some ⟨N, 0, none⟩), .pointer (some ⟨N + 3, 0, none⟩), .pointer (some ⟨N + 1, 0, none⟩)] w fun e w' => e = .returned (.int .i64 0) ∧ ∃ a' n' cap', DS w0 N p Q S (k : Int) l { s with o := o } a' n' cap' b m bc w' := by
  have HT := take_some p S (eo ++ l) k w h.rd (by rw [List.length_append]; omega)
  unfold TakePost at HT
  rw [← hk, List.take_left, List.drop_left, hk] at HT
  have HTT := Lib.hid HT
  have HP := Lib.hid (fun (x : Option Addr) (c : Nat) (W : World) (hs : SlA .u8 W x k c eo) => parse_fresh x k c eo W hs hb)
  have hpe : (if 40 < eo.length then (Opt.zero, (9 : Int)) else prs 41 eo Opt.zero) = (o, 0) := hp
  rw [hpe] at HP
  unfold ParseFresh optCells at HP
  have k0 := h.cr
  have k1 := h.cz
  obtain ⟨n1, n2, n3, n4_, n5, n6, n7⟩ := h.ne
  have m1 := n1.symm; have m2 := n2.symm; have m3 := n3.symm; have m4 := n4_.symm; have m5 := n5.symm; have m6 := n6.symm; have m7 := n7.symm
  clear HT hk hb hp hpe
  go_enter Try.func90, Try.ntmps90
  go_wp2_with fail
  refine HTT.out.mono ?_
  rintro e w1 ⟨v, rfl, hown, hr1, hk1⟩
  obtain ⟨x, c, hv, hs1, hob⟩ := sl_of_own hown
  subst hv
  have D1 := h.read hr1 hk1
  clear h hr1 hk1 k0 k1 hown hob HTT
  go_wp2_with fail
  have D1' := D1.later (Below.refl _ _).drew
  have hs1' := hs1.drew
  obtain ⟨l1, l2, l3⟩ := D1'.lts
  have l4 := D1'.below.size
  go_region_held3 (fun w' => w'.cell? ⟨N + 1, 0, none⟩ = some (.pointer (some ⟨Q, 0, none⟩))) (first | with_reducible exact D2.cq | with_reducible exact D1'.cq | with_reducible exact D1.cq | with_reducible exact D3.cq | go_keep) (first
    | (go_at_call 92; (with_reducible refine (HP.out x c _ hs1').mono ?_); rintro e w2 ⟨a2, n2', cap2, rfl, hbl2, h2, hfr⟩; have D2 := D1'.later h2; have D3 := D2.setOpt o a2 n2' cap2 hbl2 (fun y hy h0 => (by have := hfr y hy h0; omega)); have q2 := D2.seg.cs.c2; have q3 := D2.seg.cs.c3; have q4 := D2.seg.cs.c4; have q5 := D2.seg.cs.c5; have q6 := D2.seg.cs.c6; have q7 := D2.seg.cs.c7; have q8 := D2.seg.cs.c8; have q9 := D2.seg.cs.c9; have f2 := D2.seg.fz 2; have f3 := D2.seg.fz 3; have f4 := D2.seg.fz 4; have f5 := D2.seg.fz 5; have f6 := D2.seg.fz 6; have f7 := D2.seg.fz 7; have f8 := D2.seg.fz 8; have f9 := D2.seg.fz 9; clear D1 D1' hs1 hs1' h2 hbl2 hfr l1 l2 l3 l4))
  all_goals
    clear q2 q3 q4 q5 q6 q7 q8 q9 f2 f3 f4 f5 f6 f7 f8 f9 D2
    go_wp2
    go_ret
    exact ⟨rfl, _, _, _, D3⟩

set_option maxRecDepth 100000 in
set_option maxHeartbeats 3200000 in
theorem dlook4 (h : DS w0 N p Q S Z l s a n cap b m bc w) (hf : ({ s with body := l } : Seg).Fit) (hk : schk { s with body := l } = 0) :
    Calls Try.prog 93 #[.pointer (some ⟨N, 0, none⟩), .pointer (some ⟨N + 1, 0, none⟩)] w fun e w' => e = .returned (.int .i64 0) ∧ ∃ b' m' bc', DS w0 N p Q S Z l { s with body := l } a n cap b' m' bc' w' := by
  have HR := Lib.hid (fun W (hr : Rd W p S l) => rest_any p S l W hr)
  unfold RetRow at HR
  have HC := Lib.hid (fun b' m' bc' W h1 h2 => scheck_any { s with body := l } a n cap b' m' bc' W hf h1 h2)
  rw [hk] at HC
  obtain ⟨n1, n2, n3, n4_, n5, n6, n7⟩ := h.ne
  have m1 := n1.symm; have m2 := n2.symm; have m3 := n3.symm; have m4 := n4_.symm; have m5 := n5.symm; have m6 := n6.symm; have m7 := n7.symm
  obtain ⟨mm, hmm⟩ : ∃ mm, l.length = mm := ⟨_, rfl⟩
  rw [hmm] at HR
  have HMM := Lib.hid hmm
  clear hf hk hmm
  go_enter Try.func93, Try.ntmps93
  go_wp2_with fail
  have h' := h.later (Below.refl _ _).drew
  obtain ⟨l1, l2, l3⟩ := h'.lts
  have l4 := h'.below.size
  go_region_held3 (fun w' => w'.cell? ⟨N, 0, none⟩ = some (.pointer (some ⟨p, 0, none⟩)) ∧ w'.cell? ⟨N + 1, 0, none⟩ = some (.pointer (some ⟨Q, 0, none⟩))) (first | with_reducible exact ⟨D2.cr, D2.cq⟩ | with_reducible exact ⟨h'.cr, h'.cq⟩ | with_reducible exact ⟨h.cr, h.cq⟩ | with_reducible exact ⟨D3.cr, D3.cq⟩ | go_keep) (first
    | (go_at_call 94; (with_reducible refine (HR.out _ h'.rd).mono ?_); rintro e w2 ⟨v, rfl, hown, h2⟩; obtain ⟨x, c, hv, hs2, hob⟩ := sl_of_own hown; subst hv; have D2 := h'.later h2; have D3 := D2.setBody x mm c l hs2 (old_own hown) (fun y hy h0 => (by have := (hown.lt _ (hob y hy)).1; omega)); have q1 := D2.seg.cs.c10; have q2 := D2.seg.fz 10; clear h h' h2 hs2 hown hob l1 l2 l3 l4))
  all_goals
    clear q1 q2 D2
    have k1 := D3.cq
    obtain ⟨c0, c1, c2, c3, c4, c5, c6, c7, c8, c9, c10⟩ := D3.seg.cs
    go_wp2_with fail
    refine (HC.out x mm c _ D3.bl D3.body).mono ?_
    rintro e w5 ⟨rfl, h5⟩
    have D4 := D3.later h5
    clear D3 h5 c0 c1 c2 c3 c4 c5 c6 c7 c8 c9 c10 k1
    go_wp2
    go_ret
    exact ⟨rfl, _, _, _, D4⟩
end
end Go.Proofs.Ytdfenlagokndkaa.sg
