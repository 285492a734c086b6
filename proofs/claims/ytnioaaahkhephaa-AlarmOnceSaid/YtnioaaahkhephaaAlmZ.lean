/-
  Alarms: AlarmParts.
-/
import Derived.Test.YtnioaaahkhephaaAlmV
namespace Go.Proofs.Ytnioaaahkhephaa.al
open Go.RowKit Go.Maps aid mem
attribute [local go_sem ↓] Go.wp_at_zero Go.wp_at_succ
set_option linter.unusedVariables false
set_option linter.unusedSimpArgs false

/-- what rings, from the reference's times -/
theorem ring_adv {now : Int} : ∀ (f : Nat) (l : List Al) (L : List Int), Mat l L → l.length ≤ f → ∃ R l', Adv l now R l' ∧ (ring now f L).1 = nms R ∧ Mat l' (ring now f L).2 := by
  intro f
  induction f with
  | zero =>
    intro l L hm hl
    obtain rfl : l = [] := List.eq_nil_of_length_eq_zero (by omega)
    exact ⟨[], [], ⟨.refl _, .nil, fun x hx => (by cases hx), fun x hx => (by cases hx)⟩, rfl, hm⟩
  | succ f ih =>
    intro l L hm hl
    rw [ring_step]
    by_cases hc : nx L L.length < 0 ∨ now < L.getD (nx L L.length).toNat 0
    · rw [if_pos hc]
      refine ⟨[], l, ⟨.refl _, .nil, fun x hx => (by cases hx), fun x hx => ?_⟩, rfl, hm⟩
      obtain ⟨i, hi, e1, e2, e3⟩ := hm.mem x hx
      have hs := nx_spec L L.length
      by_cases h0 : nx L L.length < 0
      · have := hs.1 h0 i hi; omega
      · have := (hs.2 (by omega)).2 i hi (by omega)
        rcases hc with q | q
        · exact absurd q h0
        · omega
    · rw [if_neg hc]
      have h0 : 0 ≤ nx L L.length := by omega
      have hr := (nx_rng L L.length).2
      have hs := (nx_spec L L.length).2 h0
      obtain ⟨i, hi⟩ := Int.eq_ofNat_of_zero_le h0
      have hx := hm.has (a := nx L L.length) ⟨h0, hr, hs.1⟩
      rw [hi, Int.toNat_natCast] at hx hc hs ⊢
      have hil : i < L.length := by omega
      have hmin : ∀ y ∈ l, lt y ((i : Int), L.getD i 0) = false := fun y hy => by
        obtain ⟨j, hj, e1, e2, e3⟩ := hm.mem y hy
        have := hs.2 j hj (by omega)
        rw [nlt_iff]; simp only; omega
      have hp : l.Perm (((i : Int), L.getD i 0) :: rm l i) := by
        have hnd := nd_of_map hm.nd
        have hset := hm.set (i := i) hil (t := L.getD i 0) hs.1
        have e : L.set i (L.getD i 0) = L := by
          apply List.ext_getElem (by simp)
          intro k h1 h2
          rw [List.getElem_set]
          split
          · rename_i e; subst e; simp [List.getD, hil]
          · rfl
        rw [e] at hset
        refine (List.perm_ext_iff_of_nodup hnd (nd_of_map hset.nd)).2 (fun x => ⟨fun h => ?_, fun h => ?_⟩)
        · obtain ⟨j, hj, e1, e2, e3⟩ := hm.mem x h
          have := hset.all j hj (by omega)
          rw [← e1, e2] at this; exact this
        · obtain ⟨j, hj, e1, e2, e3⟩ := hset.mem x h
          have := hm.all j hj (by omega)
          rw [← e1, e2] at this; exact this
      have hlen := hp.length_eq
      simp only [List.length_cons] at hlen
      obtain ⟨R, l', ha, e1, e2⟩ := ih (rm l i) (L.set i (-1)) (hm.stop hil) (by omega)
      refine ⟨((i : Int), L.getD i 0) :: R, l', ⟨?_, ?_, ?_, ha.gt⟩, by simp [nms, e1], e2⟩
      · exact (List.Perm.cons _ ha.perm).trans hp.symm
      · rw [List.pairwise_cons]
        exact ⟨fun y hy => hmin y ((rm_mem.1 (ha.perm.mem_iff.1 (List.mem_append.2 (.inl hy)))).1), ha.srt⟩
      · intro x hx
        rcases List.mem_cons.1 hx with rfl | hx
        · simp only; omega
        · exact ha.le x hx
/-- what rang so far -/
structure Sofar (l0 : List Al) (now : Int) (R lk : List Al) (k : Nat) : Prop where
  perm : (R ++ lk).Perm l0
  srt : R.Pairwise (fun a b => lt b a = false)
  le : ∀ x ∈ R, x.2 ≤ now
  dom : ∀ r ∈ R, ∀ x ∈ lk, lt x r = false
  gt : 0 < k → ∀ x ∈ lk, now < x.2
theorem Sofar.start (l0 : List Al) (now : Int) : Sofar l0 now [] l0 0 := ⟨.refl _, .nil, fun x hx => (by cases hx), fun x hx => (by cases hx), fun h => by omega⟩
theorem Sofar.next {l0 : List Al} {now t2 : Int} {R lk R2 l2 : List Al} {k : Nat} (h : Sofar l0 now R lk k) (ha : Adv lk t2 R2 l2) (ht : now ≤ t2) : Sofar l0 t2 (R ++ R2) l2 (k + 1) := by
  have hle : ∀ x ∈ R ++ R2, x.2 ≤ t2 := fun x hx => by
    rcases List.mem_append.1 hx with q | q
    · have := h.le x q; omega
    · exact ha.le x q
  refine ⟨?_, ?_, hle, fun r hr x hx => ?_, fun _ => ha.gt⟩
  · rw [List.append_assoc]
    exact (List.Perm.append_left R ha.perm).trans h.perm
  · rw [List.pairwise_append]
    exact ⟨h.srt, ha.srt, fun a q b r => h.dom a q b (ha.perm.mem_iff.1 (List.mem_append.2 (.inl r)))⟩
  · have h1 := hle r hr
    have h2 := ha.gt x hx
    rw [nlt_iff]; omega
theorem Sofar.adv {l0 : List Al} {now : Int} {R lk : List Al} {k : Nat} (h : Sofar l0 now R lk k) (hk : 0 < k) : Adv l0 now R lk := ⟨h.perm, h.srt, h.le, h.gt hk⟩
/-- the rounds: both clocks -/
structure P2 (w0 : World) (C : Nat) (now : Int) (Lk : List Int) (S : List Nat) (D : Nat) (L0 : List Int) (T : List Nat) (out : List Int) (v : Value) (W : World) : Prop where
  oc : OC C now Lk S W
  own : ∀ b ∈ S, w0.heap.size ≤ b
  dc : OC D 0 L0 T W
  td : ∀ b ∈ T, b ∉ S ∧ w0.heap.size ≤ b
  row : W.ownsRow w0.heap.size 3 1 v out.length (ints .i64 out)
  sep : ∀ b, v.ownBlock = some b → b ∉ S ∧ b ∉ T
  below : Below w0.heap.size w0 W
section
variable {w0 W Y : World} {C D : Nat} {now : Int} {Lk L0 : List Int} {S T : List Nat} {out : List Int} {v : Value}
theorem P2.later (h : P2 w0 C now Lk S D L0 T out v W) (hb : Below W.heap.size W Y) : P2 w0 C now Lk S D L0 T out v Y :=
  ⟨h.oc.later hb, h.own, h.dc.later hb, h.td, own_later h.row hb, h.sep, h.below.trans (hb.mono h.below.size)⟩
theorem P2.step (h : P2 w0 C now Lk S D L0 T out v W) {n2 : Int} {L2 : List Int} {S2 : List Nat} (o : OC C n2 L2 S2 Y) (hk : Kept S W Y) (hn : ∀ b ∈ S2, b ∈ S ∨ W.heap.size ≤ b) : P2 w0 C n2 L2 S2 D L0 T out v Y := by
  have hb := h.below.size
  refine ⟨o, fun b hb' => ?_, h.dc.keep hk (fun b hb' => (h.td b hb').1), fun b hb' => ⟨fun m => ?_, (h.td b hb').2⟩, own_step h.row (fun k o hk1 hk2 => hk.heap (h.sep k hk1).1 hk2), fun b hb' => ⟨fun m => ?_, (h.sep b hb').2⟩, h.below.trans (hk.below (B := w0.heap.size) (fun b hb' => h.own b hb') hb)⟩
  · rcases hn b hb' with q | q
    · exact h.own b q
    · omega
  · rcases hn b m with q | q
    · exact (h.td b hb').1 q
    · have := h.dc.lt b hb'; omega
  · rcases hn b m with q | q
    · exact (h.sep b hb').1 q
    · have := (own_in h.row hb').1; omega
theorem P2.app (h : P2 w0 C now Lk S D L0 T out v W) {R : List Int} {a7 : Option Addr} {c7 : Nat} (ho : Y.ownsRow w0.heap.size 3 1 (.slice a7 (out.length + R.length) c7) (out.length + R.length) (ints .i64 out ++ ints .i64 R)) (hg : W.grownBy Y v.ownBlock)
    (hw : Value.ownBlock (.slice a7 (out.length + R.length) c7) = v.ownBlock ∨ Value.ownBlock (.slice a7 (out.length + R.length) c7) = some W.heap.size) : P2 w0 C now Lk S D L0 T (out ++ R) (.slice a7 (out ++ R).length c7) Y := by
  have hk : Kept (blkV v) W Y := (Kept.refl (blkV v) W).grown hg (fun k hk => .inl (by unfold blkV; rw [hk]; simp))
  have hv : ∀ b ∈ blkV v, v.ownBlock = some b := fun b hb => by unfold blkV at hb; revert hb; cases v.ownBlock <;> simp; exact fun e => e.symm
  have hl : (out ++ R).length = out.length + R.length := by simp
  refine ⟨h.oc.keep hk (fun b hb q => (h.sep b (hv b q)).1 hb), h.own, h.dc.keep hk (fun b hb q => (h.sep b (hv b q)).2 hb), h.td, by rw [hl, ints_append]; exact ho, fun b hb => ?_, h.below.trans (below_grown hg h.below.size (fun j hj => (own_in h.row hj).2))⟩
  rw [hl] at hb
  rcases hw with e | e
  · rw [e] at hb; exact h.sep b hb
  · rw [e] at hb; cases hb
    exact ⟨fun q => by have := h.oc.lt _ q; omega, fun q => by have := h.dc.lt _ q; omega⟩
end
theorem le2 {k n m : Nat} (h : ¬ (k < n ∧ k < m)) : k < n → decide ((k : Int) < (m : Int)) = false := fun h1 => decide_eq_false (fun q => h ⟨h1, by omega⟩)
/-- does of a clock, the reference being any one -/
theorem ow_does {w0 W X : World} {C : Nat} {L : List Int} (h : OW w0 C 0 L W) (hb : Below W.heap.size W X) {a : Option Addr} {cap : Nat} {L2 : List Int} (hs : SlA .i64 X a L.length cap L2) (hn : ∀ x, a = some x → W.heap.size ≤ x.block) (k z N : Int) (hk : 0 ≤ k ∧ k ≤ 255) (hz : -9223372036854775808 ≤ z ∧ z ≤ 9223372036854775807) (hN : -9223372036854775808 ≤ N ∧ N ≤ 9223372036854775807) (h3 : ¬ k % 3 = 2) :
    Calls Try.prog 11 #[.pointer (some ⟨C, 0, none⟩), rc 0 a L.length cap, opV k z N] X fun e w' => (∃ u, e = .returned u) ∧ ∃ L', L'.length = L.length ∧ OW w0 C 0 L' w' := by
  obtain ⟨S, h1, h2, h4⟩ := h
  have hl := h1.vd.len
  refine (does_any (h1.later hb) hs rfl (fun x hx m => by have := h1.lt _ m; have := hn x hx; omega) (sla_lt hs (by omega)) k z N hk hz hN).mono fun e w' hp => ?_
  obtain ⟨a2, cap2, b, he, _, hog, _⟩ := hp
  obtain ⟨S', o, k1, n1, _⟩ := hog
  have e0 : opNow 0 k N = 0 := by unfold opNow; rw [if_pos (by omega)]
  rw [e0] at o
  exact ⟨⟨_, he⟩, _, opL_len _ _ _ _ _, OW.step (h2.trans (hb.mono h2.size)) h4 o k1 n1⟩
/-- a round: what the clock tells -/
def RndP (w0 : World) (C : Nat) (l0 : List Al) (t2 : Int) (D : Nat) (L0 : List Int) (T : List Nat) (out : List Int) (v : Value) (j : Nat) (e : Ending) (w' : World) : Prop :=
  ∃ a c N2, e = .returned (.tuple #[.slice a N2 c, .int .i64 0]) ∧ ∃ R R2 l2 L2 S2, N2 = (nms R2).length ∧ Sofar l0 t2 (R ++ R2) l2 (j + 1) ∧ Mat l2 L2 ∧ L2.length = 16 ∧ out = nms R ∧ P2 w0 C t2 L2 S2 D L0 T out v w' ∧ SlA .i64 w' a (nms R2).length c (nms R2)
theorem rnd_any {w0 W : World} {C D : Nat} {l0 R lk : List Al} {now : Int} {Lk L0 : List Int} {S T : List Nat} {out : List Int} {v : Value} {j : Nat} (hs : Sofar l0 now R lk j) (hm : Mat lk Lk) (hl : Lk.length = 16) (ho : out = nms R) (h : P2 w0 C now Lk S D L0 T out v W) (p : Int) (hp : 0 ≤ p ∧ p ≤ 65535) (hn : 0 ≤ now ∧ now ≤ 4000000) :
    Calls Try.prog 13 #[.pointer (some ⟨C, 0, none⟩), .int .i64 p] W (RndP w0 C l0 (now + p) D L0 T out v j) := by
  refine (oc_adv h.oc p (by omega)).mono fun e w' hq => ?_
  rcases hq with ⟨hc, _⟩ | ⟨_, S', v2, rfl, q1, q2, q3, q4, q5⟩
  · omega
  · obtain ⟨R2, l2, ha, e1, e2⟩ := ring_adv (now := now + p) Lk.length lk Lk hm hm.room
    rw [e1] at q4
    obtain ⟨a, c, rfl, hsl⟩ := row_sl q4
    exact ⟨a, c, _, rfl, R, R2, l2, _, S', rfl, hs.next ha (by omega), e2, by rw [ring_len]; exact hl, ho, h.step q1 q2 q3, hsl⟩
/-- the end: the other clock, at once -/
def EndP (w0 : World) (C D : Nat) (sum : Int) (out : List Int) (q : Nat) (ov : Option Addr) (oc : Nat) (e : Ending) (w' : World) : Prop :=
  ∃ a c, e = .returned (.tuple #[.slice a out.length c, .int .i64 0]) ∧ SlA .i64 w' a out.length c out ∧ SlA .i64 w' ov out.length oc out ∧ Below w0.heap.size w0 w' ∧ (∃ L S, OC C sum L S w' ∧ cnt L L.length = q) ∧ ∃ L S, OC D sum L S w' ∧ cnt L L.length = q
theorem end_any {w0 W : World} {C D : Nat} {l0 R lk : List Al} {sum : Int} {Lk L0 : List Int} {S T : List Nat} {out : List Int} {ov : Option Addr} {oc j : Nat} (hs : Sofar l0 sum R lk j) (hj : 0 < j) (hm0 : Mat l0 L0) (hm : Mat lk Lk) (ho : out = nms R) (h : P2 w0 C sum Lk S D L0 T out (.slice ov out.length oc) W) (hn : 0 ≤ sum ∧ sum ≤ 4000000) :
    Calls Try.prog 13 #[.pointer (some ⟨D, 0, none⟩), .int .i64 sum] W (EndP w0 C D sum out (cnt Lk Lk.length) ov oc) := by
  refine (oc_adv h.dc sum (by omega)).mono fun e w' hq => ?_
  rcases hq with ⟨hc, _⟩ | ⟨_, S', v2, rfl, q1, q2, q3, q4, q5⟩
  · omega
  · rw [Int.zero_add] at q1 q4
    have ha := hs.adv hj
    obtain ⟨e1, e2, e3⟩ := ring_of R L0.length l0 lk L0 hm0 ha (by have := ha.perm.length_eq; rw [List.length_append] at this; have := hm0.room; omega)
    rw [e1, ← ho] at q4
    obtain ⟨a, c, rfl, hsl⟩ := row_sl q4
    have hrow := own_step h.row (W' := w') (fun k o hk1 hk2 => q2.heap (h.sep k hk1).2 hk2)
    obtain ⟨ox, cx, ex, hso, _⟩ := sl_of_own hrow
    injection ex with x1 _ x3
    subst x1; subst x3
    exact ⟨a, c, rfl, hsl, hso, h.below.trans (q2.below (B := w0.heap.size) (fun b hb => (h.td b hb).2) h.below.size), ⟨Lk, S, h.oc.keep q2 (fun b hb m => (h.td b m).1 hb), rfl⟩, _, S', q1, by rw [← e2.len, ← hm.len]⟩
set_option maxRecDepth 100000 in
set_option maxHeartbeats 8000000 in
theorem walk_AlarmParts (w : World) (a : Option Addr) (n cap : Nat) (ops : List OpV) (hops : OpA w a n cap ops) (pa : Option Addr) (pn pc : Nat) (zs : List Int) (hzs : IsRow .u16 w pa pn pc zs) :
    Calls Try.prog 4 #[.slice a n cap, .slice pa pn pc] w fun x w' => x = .returned (.bool true) ∧ Below w.heap.size w w' := by
  have hle := hops.le
  have hmost := hops.most
  unfold maxLen at hmost
  have HC := Lib.hid hops.cells
  have HE := Lib.hid hzs.elems
  clear hops hzs
  by_cases hp0 : pn = 0
  · subst hp0
    go_enter Try.func4, Try.ntmps4
    go_wp2_with fail
    refine (known_any w).mono ?_
    rintro e w1 ⟨rfl, b1⟩
    go_wp2_with fail
    refine (known_any w1).mono ?_
    rintro e w2 ⟨rfl, b2⟩
    have HB := Lib.hid (b1.trans (b2.mono b1.size))
    clear b1 b2
    go_wp2_with fail
    go_ret
    exact ⟨rfl, HB.out⟩
  obtain ⟨pb, po, rfl, hpm, hpl, HPC⟩ : ∃ b off, pa = some ⟨b, off, none⟩ ∧ pn ≤ 9223372036854775807 ∧ (zs.take pn).length = pn ∧ Hid (∀ i, i < pn → ∀ W, Below w.heap.size w W → W.cell? ⟨b, off + i, none⟩ = some (.int .u16 ((zs.take pn).getD i 0)) ∧ 0 ≤ (zs.take pn).getD i 0 ∧ (zs.take pn).getD i 0 ≤ 65535) := by
    rcases HE.out with q | ⟨b, off, e, q1, q2, q3, q4⟩
    · exact absurd q hp0
    · refine ⟨b, off, e, q1, q2, Lib.hid (fun i hi W hb => ⟨(hb.cell (World.block_lt_of_cell? w _ (q3 i hi))).trans (q3 i hi), ?_⟩)⟩
      exact range_u16 q4 i
  clear HE
  generalize zs.take pn = ps at *
  have hpi : ((pn : Int) == 0) = false := by simp; omega
  go_enter Try.func4, Try.ntmps4
  go_wp2_with fail
  refine (known_any w).mono ?_
  rintro e w1 ⟨rfl, b1⟩
  go_wp2_with fail
  refine (ow_new b1 16 (by omega) (by omega)).mono ?_
  rintro e w2 ⟨C, rfl, ho⟩
  have HO := Lib.hid ho
  clear ho b1
  go_wp2_with fail
  go_loopw [7] (fun i wr => ∃ (k : Nat), i = .int .i64 k ∧ k ≤ n ∧ k ≤ 60 ∧ Hid (∃ L, L.length = 16 ∧ OW w C 0 L wr)) (fun i _ => 60 - (intOf i).toNat)
  case atStart => exact ⟨0, rfl, by omega, by omega, Lib.hid ⟨_, by simp [rep], HO.out⟩⟩
  case round =>
    clear HO
    obtain ⟨k, rfl, hk, hk2, HP⟩ := hrel
    obtain ⟨L, hL, P⟩ := HP.out
    clear HP
    by_cases hlt : k < n ∧ k < 60
    · obtain ⟨h1, h2⟩ := hlt
      obtain ⟨B, off, rfl, hc⟩ := HC.out (by omega)
      obtain ⟨c0, c1, c2, hok⟩ := hc k h1
      have HC0 := Lib.hid (fun W (h : Below w.heap.size w W) => (show W.cell? ⟨B, off + k * 3, none⟩ = some (.int .u8 (ops.getD k default).k) ∧ W.cell? ⟨B, off + k * 3 + 1, none⟩ = some (.int .i64 (ops.getD k default).z) ∧ W.cell? ⟨B, off + k * 3 + 2, none⟩ = some (.int .i64 (ops.getD k default).N) from
        ⟨(h.cell (World.block_lt_of_cell? w _ c0)).trans c0, (h.cell (World.block_lt_of_cell? w _ c1)).trans c1, (h.cell (World.block_lt_of_cell? w _ c2)).trans c2⟩))
      clear hc c0 c1 c2
      generalize ops.getD k default = q at *
      obtain ⟨kk, z, N⟩ := q
      obtain ⟨hok1, hok2, hok3⟩ := hok
      dsimp only at HC0 hok1 hok2 hok3
      obtain ⟨o0, o1, o2⟩ := HC0.out wr P.below
      have HP := Lib.hid P
      clear P
      by_cases h32 : kk % 3 = 2
      · have HN : Hid (∃ L, L.length = 16 ∧ OW w C 0 L wr) := Lib.hid ⟨L, hL, HP.out⟩
        clear HP HC0
        go_wp2_with fail
        go_roundw
        case rel => exact ⟨k + 1, by go_num, by omega, by omega, HN⟩
        case measure => simp [intOf]; omega
      · have h01 : kk % 3 = 0 ∨ kk % 3 = 1 := by omega
        have HRN : Hid (∀ W, Calls Try.prog 9 #[.int .i64 16] W (RetCN 0 (rep 16) W)) := Lib.hid (fun W => rnew_any W 16 (by omega))
        have HDO := Lib.hid (fun (W X : World) (a4 : Option Addr) (cap4 : Nat) (hb : OW w C 0 L W) (b4 : Below W.heap.size W X) (hs4 : SlA .i64 X a4 (rep 16).length cap4 (rep 16)) (hn4 : ∀ x, a4 = some x → W.heap.size ≤ x.block) => show Calls Try.prog 11 #[.pointer (some ⟨C, 0, none⟩), rc 0 a4 (rep 16).length cap4, opV kk z N] X (fun e w' => (∃ u, e = .returned u) ∧ ∃ L', L'.length = 16 ∧ OW w C 0 L' w') from by
          have e16 : (rep 16).length = L.length := by rw [hL]; simp [rep]
          rw [e16] at hs4 ⊢
          exact (ow_does hb b4 hs4 hn4 kk z N hok1 hok2 hok3 h32).mono (fun e w' ⟨q1, L', q2, q3⟩ => ⟨q1, L', by rw [q2, hL], q3⟩))
        have e16 : (rep 16).length = 16 := by simp [rep]
        rw [e16] at HDO
        go_wp2_with fail
        have S0 := HP.out.later (Below.refl _ wr).drew
        go_region_held3 (fun w' => w'.cell? ⟨B, off + k * 3, none⟩ = some (.int .u8 kk) ∧ w'.cell? ⟨B, off + k * 3 + 1, none⟩ = some (.int .i64 z) ∧ w'.cell? ⟨B, off + k * 3 + 2, none⟩ = some (.int .i64 N)) (first | with_reducible exact HC0.out _ S2.out.below | with_reducible exact HC0.out _ q0.out | with_reducible exact HC0.out _ S0.below | go_keep)
          (first
          | (go_at_call 9; (with_reducible refine (HRN.out _).mono ?_); rintro e w4 ⟨a4, cap4, rfl, hs4, b4, hn4⟩; rw [e16] at hs4 ⊢; have HS4 := Lib.hid (And.intro b4 (And.intro hs4 hn4)); have q0 := Lib.hid (S0.later b4).below; clear b4 hs4 hn4)
          | (go_at_call 11; (with_reducible refine (HDO.out _ _ _ _ S0 HS4.out.1 HS4.out.2.1 HS4.out.2.2).mono ?_); rintro e w5 ⟨⟨u, rfl⟩, L', hL', ho'⟩; have S2 := Lib.hid ho'; clear ho'))
        have HN : Hid (∃ L, L.length = 16 ∧ OW w C 0 L w5) := Lib.hid ⟨L', hL', S2.out⟩
        clear S0 S2 HS4 q0 HDO HRN HP
        go_wp2_with fail
        go_roundw
        case rel => exact ⟨k + 1, by go_num, by omega, by omega, HN⟩
        case measure => simp [intOf]; omega
    · have HP := Lib.hid P
      clear P
      have hend : (decide ((k : Int) < n) && decide ((k : Int) < 60)) = false := by
        by_cases h1 : k < n
        · have : ¬ k < 60 := fun q => hlt ⟨h1, q⟩
          rw [decide_eq_false (show ¬ ((k : Int) < 60) by omega), Bool.and_false]
        · rw [decide_eq_false (show ¬ ((k : Int) < n) by omega), Bool.false_and]
      have HND := Lib.hid (le2 hlt)
      obtain ⟨S, oc, hb, hs⟩ := HP.out
      have HL0 : Hid (∃ l0, Mat l0 L) := Lib.hid (by obtain ⟨l0, _, q, _⟩ := oc; exact ⟨l0, q⟩)
      have HOC := Lib.hid (And.intro oc (And.intro hb hs))
      clear oc hb hs HP hend HND
      obtain ⟨l0, hm0⟩ := HL0.out
      have HM0 := Lib.hid hm0
      clear hm0 HL0
      have hd1 : k < n → decide ((k : Int) < 60) = false := fun h1 => decide_eq_false (fun q => hlt ⟨h1, by omega⟩)
      by_cases h1 : k < n
      all_goals
        first
        | (have hdd := hd1 h1; clear hd1; go_upto_region 13 with fail)
        | (have hdd : decide ((k : Int) < n) = false := decide_eq_false (by omega); clear hd1; go_upto_region 13 with fail)
      all_goals
        go_wp2_with fail
        refine (oc_clone HOC.out.1).mono ?_
        rintro e w3 ⟨D, T, rfl, hd3, b3, ht3⟩
        have P0 : Hid (P2 w C 0 L S D L T [] (.slice none 0 0) w3) := Lib.hid ⟨HOC.out.1.later b3, HOC.out.2.2, hd3, fun b hb => ⟨fun m => by have := HOC.out.1.lt _ m; have := ht3 b hb; omega, by have := ht3 b hb; have := HOC.out.2.1.size; omega⟩, World.ownsRow_nil _ _ _ _, fun b hb => (by cases hb), HOC.out.2.1.trans (b3.mono HOC.out.2.1.size)⟩
        clear hd3 b3 ht3 HOC hlt hdd
        go_wp2_with fail
        go_loopw [9, 10, 11, 12, 13] (fun s9 s10 s11 _ _ wr => ∃ (j : Nat) (sum : Int) (out : List Int) (ov : Option Addr) (oc : Nat), j ≤ pn ∧ j ≤ 60 ∧ s11 = .int .i64 j ∧ s9 = .int .i64 sum ∧ 0 ≤ sum ∧ sum ≤ 65535 * j ∧ s10 = .slice ov out.length oc ∧ out.length ≤ 16 ∧ Hid (∃ R lk Lk S', Sofar l0 sum R lk j ∧ Mat lk Lk ∧ Lk.length = 16 ∧ out = nms R ∧ P2 w C sum Lk S' D L T out (.slice ov out.length oc) wr)) (fun _ _ s11 _ _ _ => 60 - (intOf s11).toNat)
        case atStart => exact ⟨0, 0, [], none, 0, by omega, by omega, rfl, rfl, by omega, by omega, rfl, by simp, Lib.hid ⟨[], l0, L, S, Sofar.start _ _, HM0.out, hL, rfl, P0.out⟩⟩
        case round =>
          clear P0
          obtain ⟨j, sum, out, ov, oc, hj, hj2, rfl, rfl, hs0, hs1, rfl, hol, HQ⟩ := hrel
          by_cases hlt2 : j < pn ∧ j < 60
          · obtain ⟨g1, g2⟩ := hlt2
            obtain ⟨R, lk, Lk, S', hsf, hm, hl, ho, hP⟩ := HQ.out
            obtain ⟨m0, hp0, hp1⟩ := HPC.out j g1 wr hP.below
            have HR := Lib.hid (rnd_any hsf hm hl ho hP (ps.getD j 0) ⟨hp0, hp1⟩ ⟨hs0, by omega⟩)
            have HPC5 := Lib.hid (HPC.out j g1)
            clear hsf hm hl ho hP HQ
            generalize ps.getD j 0 = p at *
            have hpw : IntKind.i64.wrap p = p := IntWalk.i64_in _ (by omega)
            have hsw : IntKind.i64.wrap (sum + p) = sum + p := IntWalk.i64_in _ (by omega)
            obtain ⟨i0, hi0, hz0, hz1, hz2⟩ := info_split info_int8
            go_wp2_with fail
            refine HR.out.mono ?_
            rintro e w5 ⟨a5, c5, N2, rfl, R, R2, l2, L2, S2, rfl, hsf2, hm2, hl2, ho2, hP2, hsl2⟩
            have HN2 : Hid ((nms R2).length ≤ 16) := Lib.hid (by have := hsf2.perm.length_eq; simp only [List.length_append] at this; have := HM0.out.room; simp only [nms, List.length_map]; omega)
            have HN3 : Hid (out.length + (nms R2).length ≤ 16) := Lib.hid (by have := hsf2.perm.length_eq; simp only [List.length_append] at this; have := HM0.out.room; rw [ho2]; simp only [nms, List.length_map]; omega)
            have hn2 := HN3.out
            have HO5 := Lib.hid hP2.row
            have HS5 := Lib.hid (hsl2.src (t := 28) (e := 3) Try.underlying28)
            have hge := hP2.below.size
            have HF := Lib.hid (fun (a7 : Option Addr) (c7 : Nat) (W : World) ho hg hw => (hP2.app (R := nms R2) (a7 := a7) (c7 := c7) (Y := W) ho hg hw))
            have HMM := Lib.hid (And.intro hsf2 (And.intro hm2 (And.intro hl2 ho2)))
            clear HR hsf2 hm2 hl2 ho2 hP2 hsl2 m0
            generalize hr2 : nms R2 = r2 at *
            have HR2 := Lib.hid hr2
            clear hr2
            go_wp2_with (at_builtin; go_must (refine wpList_append_any _ rfl (.tmp 76) (.tmp 77) 28 28 rfl w.heap.size 3 i0 (.int .i64 0) 8 Try.underlying28 hi0 hz0 hz1 hz2 rfl (.slice ov out.length oc) out.length (ints .i64 out) rfl HO5.out _ rfl r2.length (ints .i64 r2) HS5.out (by unfold maxLen; omega) (by omega) hge ?_); intro a7 c7 w6 ho hg hw; have HP6 := Lib.hid (HF.out a7 c7 w6 ho hg hw); have m6 := (HPC5.out w6 HP6.out.below).1; clear ho hg hw HO5 HS5 HF)
            have HNX : Hid (∃ R lk Lk S', Sofar l0 (sum + p) R lk (j + 1) ∧ Mat lk Lk ∧ Lk.length = 16 ∧ out ++ r2 = nms R ∧ P2 w C (sum + p) Lk S' D L T (out ++ r2) (.slice a7 (out ++ r2).length c7) w6) := Lib.hid ⟨R ++ R2, l2, L2, S2, HMM.out.1, HMM.out.2.1, HMM.out.2.2.1, by rw [HMM.out.2.2.2, ← HR2.out]; simp [nms], HP6.out⟩
            clear HP6 HMM HR2 HPC5 hge
            go_wp2_with fail
            go_roundw
            case rel => exact ⟨j + 1, sum + p, out ++ r2, a7, c7, by omega, by omega, by go_num, rfl, by omega, by omega, by simp, by simp; omega, HNX⟩
            case measure => simp [intOf]; omega
          · obtain ⟨R, lk, Lk, S', hsf, hm, hl, ho, hP⟩ := HQ.out
            have hj0 : 0 < j := Nat.pos_of_ne_zero (fun e => hlt2 (by omega))
            have HEN := Lib.hid (end_any hsf hj0 HM0.out hm ho hP ⟨hs0, by omega⟩)
            have hd2 : j < pn → decide ((j : Int) < 60) = false := fun h1 => decide_eq_false (fun q => hlt2 ⟨h1, by omega⟩)
            clear hsf hm hl ho hP HQ
            generalize cnt Lk Lk.length = q at *
            by_cases h1 : j < pn
            all_goals
              first
              | (have hdd := hd2 h1; clear hd2; go_upto_region 24 with fail)
              | (have hdd : decide ((j : Int) < pn) = false := decide_eq_false (by omega); clear hd2; go_upto_region 24 with fail)
            all_goals
              clear hdd
              go_wp2_with fail
              refine HEN.out.mono ?_
              rintro e w5 ⟨a5, c5, rfl, hsl, hso, hb5, ⟨L5, S5, ho5, hc5⟩, L6, S6, ho6, hc6⟩
              have HSM : Hid (Calls Try.prog 14 #[.slice ov out.length oc, .slice a5 out.length c5] w5 (RetB true w5)) := Lib.hid ((same_any hso hsl).mono (fun e w' ⟨q1, q2⟩ => ⟨by rw [q1]; simp, q2⟩))
              have HA := Lib.hid (fun W (hb : Below w5.heap.size w5 W) => And.intro (hb5.trans (hb.mono hb5.size)) (And.intro (ho5.later hb) (ho6.later hb)))
              have HQ5 := Lib.hid (And.intro hc5 hc6)
              clear hsl hso hb5 ho5 ho6 hc5 hc6 HEN
              go_wp2_with fail
              refine HSM.out.mono ?_
              rintro e w7 ⟨rfl, b7⟩
              have HB7 := Lib.hid b7
              clear b7 HSM
              go_wp2_with fail
              refine (oc_now (HA.out _ HB7.out).2.1).mono ?_
              rintro e w8 ⟨rfl, b8⟩
              have HB8 := Lib.hid (HB7.out.trans (b8.mono HB7.out.size))
              clear b8 HB7
              go_wp2_with fail
              refine (oc_now (HA.out _ HB8.out).2.2).mono ?_
              rintro e w9 ⟨rfl, b9⟩
              have HB9 := Lib.hid (HB8.out.trans (b9.mono HB8.out.size))
              clear b9 HB8
              go_wp2_with fail
              refine (oc_len (HA.out _ HB9.out).2.1).mono ?_
              rintro e w10 ⟨rfl, b10⟩
              rw [HQ5.out.1]
              have HB10 := Lib.hid (HB9.out.trans (b10.mono HB9.out.size))
              clear b10 HB9
              go_wp2_with fail
              refine (oc_len (HA.out _ HB10.out).2.2).mono ?_
              rintro e w11 ⟨rfl, b11⟩
              rw [HQ5.out.2]
              have HB11 := Lib.hid (HB10.out.trans (b11.mono HB10.out.size))
              clear b11 HB10
              go_wp2_with fail
              refine (known_any _).mono ?_
              rintro e w12 ⟨rfl, b12⟩
              have HF := Lib.hid ((HA.out _ HB11.out).1.trans (b12.mono (HA.out _ HB11.out).1.size))
              clear b12 HB11 HA HQ5
              go_wp2_with fail
              go_ret
              exact ⟨rfl, HF.out⟩
end Go.Proofs.Ytnioaaahkhephaa.al
