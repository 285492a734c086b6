/-
  Alarms: Advance.
-/
import Derived.Test.YtnioaaahkhephaaAlmD
namespace Go.Proofs.Ytnioaaahkhephaa.al
open Go.RowKit Go.Maps aid mem
attribute [local go_sem ↓] Go.wp_at_zero Go.wp_at_succ
set_option linter.unusedVariables false
set_option linter.unusedSimpArgs false

theorem info_int8 : (Try.prog.info? 3).map (fun i => (i.zero, i.size, i.bytes)) = some (some (.int .i64 0), 1, 8) := by kernel_rfl
def nms (R : List Al) : List Int := R.map (·.1)
theorem nms_snoc (R : List Al) (x : Al) : nms (R ++ [x]) = nms R ++ [x.1] := by simp [nms]
theorem int_src (X : World) (a : Int) : Src Try.prog 1 28 (.slice (some ⟨X.heap.size, 0, none⟩) 1 1) 1 [.int .i64 a] (X.alloc (.cells #[.int .i64 a] 3)) := by
  have := (sl_new .i64 3 X [a] (by simp [maxLen])).src (t := 28) (e := 3) Try.underlying28
  simpa [ints] using this
/-- which ring, which are left -/
structure Adv (l : List Al) (now : Int) (R l' : List Al) : Prop where
  perm : (R ++ l').Perm l
  srt : R.Pairwise (fun a b => lt b a = false)
  le : ∀ x ∈ R, x.2 ≤ now
  gt : ∀ x ∈ l', now < x.2
/-- between two rounds -/
structure AI (w : World) (C : Nat) (nm now : Int) (l : List Al) (S : List Nat) (R lk : List Al) (Sk : List Nat) (v : Value) (X : World) : Prop where
  ck : Ck C nm now lk Sk X
  kept : Kept S w X
  new : ∀ b ∈ Sk, b ∈ S ∨ w.heap.size ≤ b
  perm : (R ++ lk).Perm l
  srt : R.Pairwise (fun a b => lt b a = false)
  le : ∀ x ∈ R, x.2 ≤ now
  dom : ∀ r ∈ R, ∀ x ∈ lk, lt x r = false
  row : X.ownsRow w.heap.size 3 1 v R.length (ints .i64 (nms R))
  sep : ∀ k, v.ownBlock = some k → k ∉ Sk
section
variable {w : World} {C : Nat} {nm now : Int} {l : List Al} {S : List Nat} {R lk : List Al} {Sk : List Nat} {v : Value} {X Y : World}
theorem AI.later (h : AI w C nm now l S R lk Sk v X) (hb : Below X.heap.size X Y) : AI w C nm now l S R lk Sk v Y :=
  ⟨h.ck.later hb, h.kept.trans (Kept.of_below hb (Nat.le_refl _) S) (fun _ h => .inl h), h.new, h.perm, h.srt, h.le, h.dom, own_later h.row hb, h.sep⟩
theorem AI.len (h : AI w C nm now l S R lk Sk v X) : R.length + lk.length = l.length := by have := h.perm.length_eq; rw [List.length_append] at this; exact this
theorem AI.end_ (h : AI w C nm now l S R lk Sk v X) (he : lk = [] ∨ now < (g lk 0).2) : Adv l now R lk := by
  refine ⟨h.perm, h.srt, h.le, fun x hx => ?_⟩
  rcases he with e | e
  · rw [e] at hx; cases hx
  · obtain ⟨v', bm, D, q, p, hh, _⟩ := h.ck
    obtain ⟨i, hi, rfl⟩ := mem_g hx
    have := nlt_iff.1 (heap_least hh i hi)
    omega
/-- the first one is stopped -/
theorem AI.stop (h : AI w C nm now l S R lk Sk v X) (h0 : 0 < lk.length) (ht : (g lk 0).2 ≤ now) (hn : (l.map (·.1)).Nodup) {W : World} (hc : ChgC C nm now (rm lk (g lk 0).1) Sk X W) :
    ∃ S2 l2, Ck C nm now l2 S2 W ∧ Kept S w W ∧ (∀ b ∈ S2, b ∈ S ∨ w.heap.size ≤ b) ∧ (R ++ [g lk 0] ++ l2).Perm l ∧ (R ++ [g lk 0]).Pairwise (fun a b => lt b a = false) ∧ (∀ x ∈ R ++ [g lk 0], x.2 ≤ now) ∧ (∀ r ∈ R ++ [g lk 0], ∀ x ∈ l2, lt x r = false) ∧
      W.ownsRow w.heap.size 3 1 v R.length (ints .i64 (nms R)) ∧ (∀ k, v.ownBlock = some k → k ∉ S2) := by
  obtain ⟨S2, l2, c2, p2, k2, n2⟩ := hc
  obtain ⟨v', bm, D, q, p, hh, _⟩ := h.ck
  have hx : g lk 0 ∈ lk := g_mem h0
  have hnl : (lk.map (·.1)).Nodup := p.nd
  obtain ⟨y, lr, e⟩ : ∃ y lr, lk = y :: lr := by cases lk with | nil => simp at h0 | cons y lr => exact ⟨y, lr, rfl⟩
  have eg : g lk 0 = y := by rw [e]; rfl
  have hrm : rm lk (g lk 0).1 = lr := by
    rw [eg, e, rm_cons, if_pos rfl]
    rw [e, List.map_cons, List.nodup_cons] at hnl
    exact rm_none (fun z hz ez => hnl.1 (List.mem_map.2 ⟨z, hz, ez⟩))
  rw [hrm] at p2
  have hsub : ∀ x ∈ l2, x ∈ lk := fun x hx2 => by rw [e]; exact List.mem_cons_of_mem _ (p2.mem_iff.1 hx2)
  refine ⟨S2, l2, c2, h.kept.trans k2 (fun b hb => h.new b hb), fun b hb => ?_, ?_, ?_, fun x hx2 => ?_, fun r hr x hx2 => ?_, k2.own (fun k hk => h.sep k hk) h.row, fun k hk hs => ?_⟩
  · rcases n2 b hb with q2 | q2
    · exact h.new b q2
    · exact .inr (Nat.le_trans h.kept.size q2)
  · refine List.Perm.trans ?_ h.perm
    rw [List.append_assoc]
    refine List.Perm.append_left R ?_
    rw [eg]; conv => rhs; rw [e]
    exact List.Perm.cons y p2
  · rw [List.pairwise_append]
    refine ⟨h.srt, List.pairwise_singleton _ _, fun a ha b hb => ?_⟩
    simp at hb; rw [hb]
    exact h.dom a ha _ hx
  · rcases List.mem_append.1 hx2 with q2 | q2
    · exact h.le x q2
    · simp at q2; rw [q2]; exact ht
  · rcases List.mem_append.1 hr with q2 | q2
    · exact h.dom r q2 x (hsub x hx2)
    · simp at q2; rw [q2]
      obtain ⟨i, hi, rfl⟩ := mem_g (hsub x hx2)
      exact heap_least hh i hi
  · rcases n2 k hs with q2 | q2
    · exact h.sep k hk q2
    · have := (own_in h.row hk).1; omega
end
def lenOf : Value → Nat
  | .slice _ n _ => n
  | _ => 0
theorem ai_app {w : World} {C : Nat} {nm now : Int} {l : List Al} {S : List Nat} {R l2 : List Al} {S2 : List Nat} {v : Value} {x : Al} {w2 w4 : World} {a7 : Option Addr} {c7 : Nat}
    (h : Ck C nm now l2 S2 w2 ∧ Kept S w w2 ∧ (∀ b ∈ S2, b ∈ S ∨ w.heap.size ≤ b) ∧ (R ++ [x] ++ l2).Perm l ∧ (R ++ [x]).Pairwise (fun a b => lt b a = false) ∧ (∀ y ∈ R ++ [x], y.2 ≤ now) ∧ (∀ r ∈ R ++ [x], ∀ y ∈ l2, lt y r = false) ∧
      w2.ownsRow w.heap.size 3 1 v R.length (ints .i64 (nms R)) ∧ (∀ k, v.ownBlock = some k → k ∉ S2))
    (ho : w4.ownsRow w.heap.size 3 1 (.slice a7 (R.length + 1) c7) (R.length + 1) (ints .i64 (nms R) ++ [.int .i64 x.1])) (hg : (w2.alloc (.cells #[.int .i64 x.1] 3)).grownBy w4 v.ownBlock)
    (hw : Value.ownBlock (.slice a7 (R.length + 1) c7) = v.ownBlock ∨ Value.ownBlock (.slice a7 (R.length + 1) c7) = some (w2.alloc (.cells #[.int .i64 x.1] 3)).heap.size) :
    AI w C nm now l S (R ++ [x]) l2 S2 (.slice a7 (R ++ [x]).length c7) w4 := by
  obtain ⟨k1, k2, k3, k4, k5, k6, k7, k8, k9⟩ := h
  have hb := bal (w := w2) (.cells #[.int .i64 x.1] 3)
  have hk : Kept (blkV v) w2 w4 := (Kept.of_below hb (Nat.le_refl _) (blkV v)).grown hg (fun k hk => .inl (by unfold blkV; rw [hk]; simp))
  have hv : ∀ k ∈ blkV v, k ∉ S2 ∧ w.heap.size ≤ k := fun k hk' => by
    have e : v.ownBlock = some k := by unfold blkV at hk'; revert hk'; cases v.ownBlock <;> simp; exact fun e => e.symm
    exact ⟨k9 k e, (own_in k8 e).2⟩
  have hlen : (R ++ [x]).length = R.length + 1 := by simp
  refine ⟨k1.keep hk (fun b hb' hb2 => (hv b hb2).1 hb'), k2.trans hk (fun k hk' => .inr (hv k hk').2), k3, k4, k5, k6, k7, ?_, fun k hk' hs => ?_⟩
  · rw [hlen, nms_snoc, ints_append]; exact ho
  · rw [hlen] at hk'
    rcases hw with e | e
    · rw [e] at hk'; exact k9 k hk' hs
    · rw [e] at hk'
      cases hk'
      have := k1.lt _ hs
      simp at this; omega
def AdvPost (C : Nat) (nm now : Int) (l : List Al) (S : List Nat) (dt : Int) (w : World) (e : Ending) (w' : World) : Prop :=
  ((dt < 0 ∨ 4611686018427387904 - now < dt) ∧ e = .returned (.tuple #[.slice none 0 0, .int .i64 3]) ∧ w = w') ∨
  (¬ (dt < 0 ∨ 4611686018427387904 - now < dt) ∧ ∃ R l' S' v, e = .returned (.tuple #[v, .int .i64 0]) ∧ AI w C nm (now + dt) l S R l' S' v w' ∧ Adv l (now + dt) R l')
theorem Ck.go {C : Nat} {nm now : Int} {l : List Al} {S : List Nat} {w : World} (h : Ck C nm now l S w) (n2 : Int) : Ck C nm n2 l S (w.setCell ⟨C, 1, none⟩ (.int .i64 n2)) ∧ Kept S w (w.setCell ⟨C, 1, none⟩ (.int .i64 n2)) := by
  obtain ⟨v, bm, D, q, p, hh, rfl⟩ := h
  have k : Kept (C :: bm :: blkV v) w (w.setCell ⟨C, 1, none⟩ (.int .i64 n2)) := (Kept.refl _ w).setCell (.inl (by simp)) _
  refine ⟨⟨v, bm, D, ⟨(heap_setCell_same w C 1 _ _ _ q.hdr).trans rfl, q.row.step (fun k' o hk' ho => ?_), map_block q.map (fun o ho => ?_)⟩, p, hh, rfl⟩, k⟩
  · exact (Below.heap_setCell w ⟨C, 1, none⟩ (.int .i64 n2) k' (by simpa using (q.own_ne (b := k') (by unfold blkV; rw [hk']; simp)).1)).trans ho
  · exact (Below.heap_setCell w ⟨C, 1, none⟩ (.int .i64 n2) bm (by simpa using q.ne1)).trans ho
set_option maxRecDepth 100000 in
set_option maxHeartbeats 4000000 in
theorem adv_any (w : World) {C : Nat} {nm now : Int} {l : List Al} {S : List Nat} (h : Ck C nm now l S w) (hO : Okl nm now l) (hn : nm ≤ 64) (hnow : 0 ≤ now ∧ now ≤ 4611686018427387904) (hl : l.length ≤ 80000) (dt : Int) (hdt : -9223372036854775808 ≤ dt ∧ dt ≤ 9223372036854775807) :
    Calls Try.prog 13 #[.pointer (some ⟨C, 0, none⟩), .int .i64 dt] w (AdvPost C nm now l S dt w) := by
  obtain ⟨i0, hi, hz0, hz1, hz2⟩ := info_split info_int8
  have hc1 : w.cell? ⟨C, 1, none⟩ = some (.int .i64 now) := by obtain ⟨v, bm, D, q, _⟩ := h; exact cofr q.hdr 1 _ rfl
  have hf1 : w.frozen? ⟨C, 1, none⟩ = false := by obtain ⟨v, bm, D, q, _⟩ := h; exact fofr q.hdr 1
  by_cases h1 : dt < 0
  · have HF := Lib.hid (show AdvPost C nm now l S dt w (.returned (.tuple #[.slice none 0 0, .int .i64 3])) w from .inl ⟨.inl h1, rfl, rfl⟩)
    clear h hO
    go_enter Try.func13, Try.ntmps13
    go_wp2_with fail
    go_ret2
    exact HF.out
  by_cases h2 : 4611686018427387904 - now < dt
  · have HF := Lib.hid (show AdvPost C nm now l S dt w (.returned (.tuple #[.slice none 0 0, .int .i64 3])) w from .inl ⟨.inr h2, rfl, rfl⟩)
    clear h hO
    go_enter Try.func13, Try.ntmps13
    go_wp2_with fail
    go_ret2
    exact HF.out
  have HEND := Lib.hid (fun (R l' : List Al) (S' : List Nat) (v : Value) (X : World) (ha : AI w C nm (now + dt) l S R l' S' v X) (hb : Adv l (now + dt) R l') => show AdvPost C nm now l S dt w (.returned (.tuple #[v, .int .i64 0])) X from .inr ⟨by omega, R, l', S', v, rfl, ha, hb⟩)
  obtain ⟨cg, kg⟩ := h.go (now + dt)
  have K0 : AI w C nm (now + dt) l S [] l S (.slice none 0 0) (w.setCell ⟨C, 1, none⟩ (.int .i64 (now + dt))) := ⟨cg, kg, fun b hb => .inl hb, .refl _, List.Pairwise.nil, (fun x hx => by cases hx), (fun r hr => by cases hr), World.ownsRow_nil _ _ _ _, (fun k hk => by cases hk)⟩
  have hwr : IntKind.i64.wrap (now + dt) = now + dt := IntWalk.i64_in _ (by omega)
  have HNX := Lib.hid (fun (R lk : List Al) (Sk : List Nat) (v : Value) (X : World) (ha : AI w C nm (now + dt) l S R lk Sk v X) => next_any X ha.ck (by have := ha.len; omega))
  have HST := Lib.hid (fun (R lk : List Al) (Sk : List Nat) (v : Value) (X : World) (ha : AI w C nm (now + dt) l S R lk Sk v X) (h0 : 0 < lk.length) => by
    have hW : Wd lk := fun x hx => (hO.wd hn) x (ha.perm.mem_iff.1 (List.mem_append.2 (.inr hx)))
    have hN : (lk.map (·.1)).Nodup := by
      obtain ⟨v', bm, D, q, p, hh, _⟩ := ha.ck
      exact p.nd
    exact stop_any X ha.ck hW hN (by have := ha.len; omega) (g lk 0).1 (hW _ (g_mem h0)))
  have HND := Lib.hid hO.1
  have HK0 := Lib.hid K0
  clear h hO cg kg K0
  generalize hnw : now + dt = now2 at *
  go_enter Try.func13, Try.ntmps13
  go_wp2_with fail
  refine (HNX.out _ _ _ _ _ HK0.out).mono ?_
  rintro e w1 ⟨rfl, h1⟩
  have HK : Hid (∃ Sk, AI w C nm now2 l S [] l Sk (.slice none 0 0) w1) := Lib.hid ⟨S, HK0.out.later h1⟩
  clear h1 HK0 hc1 hf1
  go_wp2_with fail
  go_loopw [6, 7, 8, 9] (fun s6 s7 s8 s9 wr => ∃ (R lk : List Al) (a6 : Option Addr) (c6 : Nat), s6 = .slice a6 R.length c6 ∧ s7 = .int .i64 (hd lk).1 ∧ s8 = .int .i64 (hd lk).2.1 ∧ s9 = .bool (hd lk).2.2 ∧ Hid (∃ Sk, AI w C nm now2 l S R lk Sk (.slice a6 R.length c6) wr)) (fun s6 _ _ _ _ => l.length - lenOf s6)
  case atStart => exact ⟨[], l, none, 0, rfl, rfl, rfl, rfl, HK⟩
  case round =>
    clear HK
    obtain ⟨R, lk, a6, c6, rfl, rfl, rfl, rfl, HR⟩ := hrel
    obtain ⟨Sk, K⟩ := HR.out
    have hlen := K.len
    have hc1 : wr.cell? ⟨C, 1, none⟩ = some (.int .i64 now2) := by obtain ⟨v, bm, D, q, _⟩ := K.ck; exact cofr q.hdr 1 _ rfl
    by_cases h0 : 0 < lk.length
    · rw [hd_cons h0]
      dsimp only
      by_cases ht : (g lk 0).2 ≤ now2
      · have HSP := Lib.hid (HST.out R lk Sk _ wr K h0)
        have HAS := Lib.hid (fun (W : World) (hc : ChgC C nm now2 (rm lk (g lk 0).1) Sk wr W) => K.stop h0 ht HND.out hc)
        clear K HR HST HEND
        generalize g lk 0 = x at *
        go_wp2_with fail
        refine HSP.out.mono ?_
        rintro e w2 ⟨b, rfl, _, hc⟩
        obtain ⟨S2, l2, k1, k2, k3, k4, k5, k6, k7, k8, k9⟩ := HAS.out w2 hc
        have HA := Lib.hid (And.intro k1 (And.intro k2 (And.intro k3 (And.intro k4 (And.intro k5 (And.intro k6 (And.intro k7 (And.intro k8 k9))))))))
        have hl2 := k4.length_eq
        simp only [List.length_append, List.length_singleton] at hl2
        have hbz := k2.size
        have HO := Lib.hid (own_later k8 (bal (w := w2) (.cells #[.int .i64 x.1] 3)))
        have HSRC := Lib.hid (int_src w2 x.1)
        clear k1 k2 k3 k4 k5 k6 k7 k8 k9 hc HAS HSP hc1
        go_wp2_with (at_builtin; refine wpList_append_any _ rfl (.tmp 55) (.tmp 57) 28 28 rfl w.heap.size 3 i0 (.int .i64 0) 8 Try.underlying28 hi hz0 hz1 hz2 rfl (.slice a6 R.length c6) R.length (ints .i64 (nms R)) rfl HO.out _ rfl 1 [.int .i64 x.1] HSRC.out (by unfold maxLen; omega) (by omega) (by simp; omega) ?_)
        intro a7 c7 w4 ho hg hw
        have HN4 : Hid (AI w C nm now2 l S (R ++ [x]) l2 S2 (.slice a7 (R ++ [x]).length c7) w4) := Lib.hid (ai_app HA.out ho hg (by simpa using hw))
        clear ho hg hw HA HO HSRC
        go_wp2_with fail
        refine (HNX.out _ _ _ _ _ HN4.out).mono ?_
        rintro e w5 ⟨rfl, h5⟩
        have HK5 : Hid (∃ Sk, AI w C nm now2 l S (R ++ [x]) l2 Sk (.slice a7 (R ++ [x]).length c7) w5) := Lib.hid ⟨S2, HN4.out.later h5⟩
        clear h5 HN4
        go_wp2_with fail
        go_roundw
        case rel => exact ⟨R ++ [x], l2, a7, c7, by simp, rfl, rfl, rfl, HK5⟩
        case measure => simp [lenOf]; omega
      · have HF := Lib.hid (HEND.out R lk Sk _ wr K (K.end_ (.inr (by omega))))
        clear K HR HST HEND HNX
        go_wp2_with fail
        go_ret2
        exact HF.out
    · have e0 : lk = [] := List.eq_nil_of_length_eq_zero (by omega)
      have HF := Lib.hid (HEND.out R lk Sk _ wr K (K.end_ (.inl e0)))
      clear K HR HST HEND HNX
      subst e0
      rw [show hd ([] : List Al) = (0, 0, false) from rfl]
      dsimp only
      go_wp2_with fail
      go_ret2
      exact HF.out
end Go.Proofs.Ytnioaaahkhephaa.al
