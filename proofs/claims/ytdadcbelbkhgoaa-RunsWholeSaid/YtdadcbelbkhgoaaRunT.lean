/-
  RunsWhole.
-/
import Derived.Test.YtdadcbelbkhgoaaRunS
import Derived.Test.YtdadcbelbkhgoaaRunN
namespace Go.Proofs.Ytdadcbelbkhgoaa.rn
open Go.RowKit Go.Shelf aid mem rng sp
attribute [local go_sem] Oper.semAt_some
set_option linter.unusedVariables false
set_option linter.unusedSimpArgs false

/-- two sets and what lies in boxes -/
structure WL (w : World) (s : Sp) (bs br b5 b6 Br Ba : Nat) (l : List Sp) (Sr : List Nat) (M : List Sp) (Sa : List Nat) (X : World) : Prop where
  own : Own Br l Sr X
  all : Own Ba M Sa X
  sp : SpAt X bs s
  p5 : X.heap[b5]? = some (.cells #[.pointer (some ⟨Br, 0, none⟩)] 26 (0, 0))
  p6 : X.heap[b6]? = some (.cells #[.pointer (some ⟨Ba, 0, none⟩)] 26 (0, 0))
  hr : X.heap[br]? = some (.cells #[.bool false] 4 (0, 0))
  below : Below w.heap.size w X
  dA : ∀ k ∈ Sa, k ≠ bs ∧ k ≠ br ∧ k ≠ b5 ∧ k ≠ b6 ∧ k ∉ Sr ∧ w.heap.size ≤ k
  dR : ∀ k ∈ Sr, k ≠ bs ∧ k ≠ br ∧ k ≠ b5 ∧ k ≠ b6 ∧ w.heap.size ≤ k
  ge : w.heap.size ≤ br
theorem WL.steps {w : World} {s : Sp} {bs br b5 b6 Br Ba : Nat} {l M : List Sp} {Sr Sa : List Nat} {X Y : World} {K : Nat → Prop} (h : WL w s bs br b5 b6 Br Ba l Sr M Sa X) (hs : rng.Steps K X Y)
    (h1 : K bs) (h2 : K br) (h3 : K b5) (h4 : K b6) (h5 : ∀ k ∈ Sr, K k) (h6 : ∀ k ∈ Sa, K k) (h7 : ∀ k, k < w.heap.size → K k) : WL w s bs br b5 b6 Br Ba l Sr M Sa Y :=
  ⟨h.own.steps hs h5, h.all.steps hs h6, hs.heap h1 h.sp, hs.heap h3 h.p5, hs.heap h4 h.p6, hs.heap h2 h.hr, h.below.trans (hs.below h.below.size h7), h.dA, h.dR, h.ge⟩
theorem WL.later {w : World} {s : Sp} {bs br b5 b6 Br Ba : Nat} {l M : List Sp} {Sr Sa : List Nat} {X Y : World} (h : WL w s bs br b5 b6 Br Ba l Sr M Sa X) (hb : Below X.heap.size X Y) : WL w s bs br b5 b6 Br Ba l Sr M Sa Y :=
  h.steps (rng.Steps.of_below hb (fun _ => True)) trivial trivial trivial trivial (fun _ _ => trivial) (fun _ _ => trivial) (fun _ _ => trivial)
theorem WL.lt {w : World} {s : Sp} {bs br b5 b6 Br Ba : Nat} {l M : List Sp} {Sr Sa : List Nat} {X : World} (h : WL w s bs br b5 b6 Br Ba l Sr M Sa X) : bs < X.heap.size ∧ br < X.heap.size ∧ b5 < X.heap.size ∧ b6 < X.heap.size ∧ (∀ k ∈ Sr, k < X.heap.size) ∧ ∀ k ∈ Sa, k < X.heap.size :=
  ⟨h.sp.lt, lt_of_block h.hr, lt_of_block h.p5, lt_of_block h.p6, h.own.lt, h.all.lt⟩
theorem WL.addA {w : World} {s : Sp} {bs br b5 b6 Br Ba : Nat} {l M M' : List Sp} {Sr Sa Sa' : List Nat} {X Y : World} (h : WL w s bs br b5 b6 Br Ba l Sr M Sa X) (ho : Own Ba M' Sa' Y) (hk : Kept Sa X Y) (hn : ∀ b ∈ Sa', b ∈ Sa ∨ X.heap.size ≤ b) : WL w s bs br b5 b6 Br Ba l Sr M' Sa' Y := by
  obtain ⟨l1, l2, l3, l4, l5, l6⟩ := h.lt
  have ne : ∀ k, k ∈ Sa → k ≠ bs ∧ k ≠ br ∧ k ≠ b5 ∧ k ≠ b6 := fun k hk => ⟨(h.dA k hk).1, (h.dA k hk).2.1, (h.dA k hk).2.2.1, (h.dA k hk).2.2.2.1⟩
  refine ⟨h.own.keep hk (fun b hb hb2 => (h.dA b hb2).2.2.2.2.1 hb), ho, hk.heap (fun e => (ne _ e).1 rfl) h.sp, hk.heap (fun e => (ne _ e).2.2.1 rfl) h.p5, hk.heap (fun e => (ne _ e).2.2.2 rfl) h.p6, hk.heap (fun e => (ne _ e).2.1 rfl) h.hr,
    h.below.trans (hk.below (B := w.heap.size) (fun k hk => (h.dA k hk).2.2.2.2.2) h.below.size), fun k hk' => ?_, h.dR, h.ge⟩
  rcases hn k hk' with e | e
  · exact h.dA k e
  · exact ⟨by omega, by omega, by omega, by omega, fun e2 => by have := l5 k e2; omega, by have := h.below.size; omega⟩
theorem WL.addR {w : World} {s : Sp} {bs br b5 b6 Br Ba : Nat} {l l' M : List Sp} {Sr Sr' Sa : List Nat} {X Y : World} (h : WL w s bs br b5 b6 Br Ba l Sr M Sa X) (ho : Own Br l' Sr' Y) (hk : Kept Sr X Y) (hn : ∀ b ∈ Sr', b ∈ Sr ∨ X.heap.size ≤ b) : WL w s bs br b5 b6 Br Ba l' Sr' M Sa Y := by
  obtain ⟨l1, l2, l3, l4, l5, l6⟩ := h.lt
  have ne : ∀ k, k ∈ Sr → k ≠ bs ∧ k ≠ br ∧ k ≠ b5 ∧ k ≠ b6 := fun k hk => ⟨(h.dR k hk).1, (h.dR k hk).2.1, (h.dR k hk).2.2.1, (h.dR k hk).2.2.2.1⟩
  refine ⟨ho, h.all.keep hk (fun b hb hb2 => (h.dA b hb).2.2.2.2.1 hb2), hk.heap (fun e => (ne _ e).1 rfl) h.sp, hk.heap (fun e => (ne _ e).2.2.1 rfl) h.p5, hk.heap (fun e => (ne _ e).2.2.2 rfl) h.p6, hk.heap (fun e => (ne _ e).2.1 rfl) h.hr,
    h.below.trans (hk.below (B := w.heap.size) (fun k hk => (h.dR k hk).2.2.2.2) h.below.size), fun k hk' => ?_, fun k hk' => ?_, h.ge⟩
  · obtain ⟨a1, a2, a3, a4, a5, a6⟩ := h.dA k hk'
    exact ⟨a1, a2, a3, a4, fun e => by rcases hn k e with q | q; exact a5 q; (have := l6 k hk'; omega), a6⟩
  · rcases hn k hk' with e | e
    · exact h.dR k e
    · exact ⟨by omega, by omega, by omega, by omega, by have := h.below.size; omega⟩
/-- and the count -/
structure WS (w : World) (s : Sp) (bs br b5 b6 bn Br Ba : Nat) (l : List Sp) (Sr : List Nat) (z : Int) (M : List Sp) (Sa : List Nat) (X : World) : Prop where
  wl : WL w s bs br b5 b6 Br Ba l Sr M Sa X
  hn : X.heap[bn]? = some (.cells #[.int .i64 z] 3 (0, 0))
  dn : bn ≠ bs ∧ bn ≠ br ∧ bn ≠ b5 ∧ bn ≠ b6 ∧ bn ∉ Sr ∧ w.heap.size ≤ bn
  da : bn ∉ Sa
theorem WS.steps {w : World} {s : Sp} {bs br b5 b6 bn Br Ba : Nat} {z : Int} {l M : List Sp} {Sr Sa : List Nat} {X Y : World} {K : Nat → Prop} (h : WS w s bs br b5 b6 bn Br Ba l Sr z M Sa X) (hs : rng.Steps K X Y)
    (h1 : K bs) (h2 : K br) (h3 : K b5) (h4 : K b6) (h5 : ∀ k ∈ Sr, K k) (h6 : ∀ k ∈ Sa, K k) (h7 : ∀ k, k < w.heap.size → K k) (h8 : K bn) : WS w s bs br b5 b6 bn Br Ba l Sr z M Sa Y :=
  ⟨h.wl.steps hs h1 h2 h3 h4 h5 h6 h7, hs.heap h8 h.hn, h.dn, h.da⟩
theorem WS.later {w : World} {s : Sp} {bs br b5 b6 bn Br Ba : Nat} {z : Int} {l M : List Sp} {Sr Sa : List Nat} {X Y : World} (h : WS w s bs br b5 b6 bn Br Ba l Sr z M Sa X) (hb : Below X.heap.size X Y) : WS w s bs br b5 b6 bn Br Ba l Sr z M Sa Y :=
  ⟨h.wl.later hb, (hb.block _ (lt_of_block h.hn)).trans h.hn, h.dn, h.da⟩
theorem WS.addA {w : World} {s : Sp} {bs br b5 b6 bn Br Ba : Nat} {z : Int} {l M M' : List Sp} {Sr Sa Sa' : List Nat} {X Y : World} (h : WS w s bs br b5 b6 bn Br Ba l Sr z M Sa X) (ho : Own Ba M' Sa' Y) (hk : Kept Sa X Y) (hn : ∀ b ∈ Sa', b ∈ Sa ∨ X.heap.size ≤ b) : WS w s bs br b5 b6 bn Br Ba l Sr z M' Sa' Y :=
  ⟨h.wl.addA ho hk hn, hk.heap h.da h.hn, h.dn, fun e => by rcases hn _ e with q | q; exact h.da q; (have := lt_of_block h.hn; omega)⟩
theorem WS.put {w : World} {s : Sp} {bs br b5 b6 bn Br Ba : Nat} {z : Int} {l M : List Sp} {Sr Sa : List Nat} {X : World} (h : WS w s bs br b5 b6 bn Br Ba l Sr z M Sa X) (z' : Int) : WS w s bs br b5 b6 bn Br Ba l Sr z' M Sa (X.setCell ⟨bn, 0, none⟩ (.int .i64 z')) := by
  obtain ⟨d1, d2, d3, d4, d5, d6⟩ := h.dn
  exact ⟨h.wl.steps (rng.Steps.setCell (fun k => k ≠ bn) X ⟨bn, 0, none⟩ (.int .i64 z') (by simp)) d1.symm d2.symm d3.symm d4.symm (fun k hk e => d5 (e ▸ hk)) (fun k hk e => h.da (e ▸ hk)) (fun k hk => by omega), (heap_setCell_same X bn 0 _ _ (.int .i64 z') h.hn).trans rfl, h.dn, h.da⟩
/-- between two rounds of the range over the gaps -/
def J1 (w : World) (s : Sp) (bs br b5 b6 bn Br Ba : Nat) (l : List Sp) (Sr : List Nat) (pre : List Sp) (C : Nat → Prop) (X : World) : Prop := ∃ Sa, WS w s bs br b5 b6 bn Br Ba l Sr (bytesL pre) pre Sa X ∧ C bn ∧ ∀ k ∈ Sa, C k
/-- what lies below block n, and what the consumer may write, is kept -/
theorem ws_bears {w : World} {s : Sp} {bs br b5 b6 bn Br Ba : Nat} {z : Int} {l M : List Sp} {Sr Sa : List Nat} {X Y : World} {n : Nat} {C : Nat → Prop} (h : WS w s bs br b5 b6 bn Br Ba l Sr z M Sa X) (hs : rng.Steps (fun k => k < n ∨ C k) X Y) (hC : ∀ k ∈ Sa, C k)
    (h1 : bs < n) (h2 : br < n) (h3 : b5 < n) (h4 : b6 < n) (h5 : ∀ k ∈ Sr, k < n) (h7 : w.heap.size ≤ n) (h8 : bn < n) : WS w s bs br b5 b6 bn Br Ba l Sr z M Sa Y :=
  h.steps hs (.inl h1) (.inl h2) (.inl h3) (.inl h4) (fun k hk => .inl (h5 k hk)) (fun k hk => .inr (hC k hk)) (fun k hk => .inl (by omega)) (.inl h8)
def B1 (w : World) (s : Sp) (bs br b5 b6 bn Br Ba : Nat) (l : List Sp) (Sr : List Nat) (n0 : Nat) (pre : List Sp) (b : Nat) (y : Sp) (C : Nat → Prop) (X : World) : Prop := ∃ Sa, WS w s bs br b5 b6 bn Br Ba l Sr (bytesL pre) pre Sa X ∧ C bn ∧ (∀ k ∈ Sa, C k ∧ k ≠ b) ∧ SpAt X b y ∧ C b ∧ n0 ≤ b
/-- between two rounds of the range over all -/
def J2 (w : World) (s : Sp) (bs br b5 b6 bn Br Ba : Nat) (l : List Sp) (Sr : List Nat) (D : Nat) (z : Int) (G : List Sp) (pre : List Sp) (C : Nat → Prop) (X : World) : Prop := ∃ Sa, WS w s bs br b5 b6 bn Br Ba l Sr z (mfold G pre s) Sa X ∧ (∀ k ∈ Sa, C k ∧ k ≠ D) ∧ X.heap[D]? = some (.deferred (some []))
def B2 (w : World) (s : Sp) (bs br b5 b6 bn Br Ba : Nat) (l : List Sp) (Sr : List Nat) (D : Nat) (z : Int) (G : List Sp) (n0 : Nat) (pre : List Sp) (b : Nat) (y : Sp) (C : Nat → Prop) (X : World) : Prop := ∃ Sa, WS w s bs br b5 b6 bn Br Ba l Sr z (mfold G pre s) Sa X ∧ (∀ k ∈ Sa, C k ∧ k ≠ D ∧ k ≠ b) ∧ X.heap[D]? = some (.deferred (some [])) ∧ SpAt X b y ∧ C b ∧ n0 ≤ b
set_option maxRecDepth 100000 in
set_option maxHeartbeats 8000000 in
theorem walk_RunsWhole (w : World) (a : Option Addr) (n cap : Nat) (li : List Sp) (hl : SlS w a n cap li) (s : Sp) :
    Calls Try.prog 6 #[.slice a n cap, spV s] w fun e w' => e = .returned (.bool true) ∧ Below w.heap.size w w' := by
  have hle := hl.le
  have hmost := hl.most
  unfold maxLen at hmost
  have HC := Lib.hid (fun h0 => hl.cells h0)
  have hMO : Try.prog.follows .mixedOrders = true := by kernel_rfl
  refine (callsIn_wide (n := 6)).1 ?_
  refine callsIn_of_wp_marks Try.func6 rfl trivial ?_ rfl
  simp only [Try.ntmps6, List.size_toArray, List.length_cons, List.length_nil, Nat.reduceAdd, Nat.reduceSub, Array.replicate_succ, Array.replicate_zero, List.push_toArray, List.append_toArray, List.nil_append, List.cons_append]
  have b1 := bal (w := w) (.cells #[.int .i64 s.1, .int .i64 s.2] 24)
  have s1 := sp_new w s
  have hz1 : (w.alloc (.cells #[.int .i64 s.1, .int .i64 s.2] 24)).heap.size = w.heap.size + 1 := by simp
  have b2 := bal (w := w.alloc (.cells #[.int .i64 s.1, .int .i64 s.2] 24)) (.cells #[.bool false] 4)
  have r2 := heap_alloc_new (w.alloc (.cells #[.int .i64 s.1, .int .i64 s.2] 24)) (.cells #[.bool false] 4)
  rw [hz1] at r2
  have s2 := s1.later b2
  have b12 := b1.trans (b2.mono b1.size)
  have HB1 := Lib.hid (And.intro b12 (And.intro s2 r2))
  clear b1 s1 b2 r2 s2 b12 hl hz1
  gi_wp2
  refine ⟨trivial, ?_⟩
  refine (callsIn_wide.2 (known_any _)).mono ?_
  rintro e w1 ⟨rfl, h1⟩
  obtain ⟨b12, s2, r2⟩ := HB1.out
  have b3 := b12.trans (h1.mono b12.size)
  have s3 := s2.later h1
  have r3 := (h1.block _ (lt_of_block r2)).trans r2
  have hbr : w.heap.size < w1.heap.size := by have := s3.lt; omega
  clear HB1 b12 s2 r2 h1
  gi_wp2
  refine ⟨trivial, ?_⟩
  refine (callsIn_wide.2 (new_own _)).mono ?_
  rintro e w2 ⟨Br, Sr, rfl, o2, h2, n2⟩
  gi_wp2
  refine ⟨trivial, ?_⟩
  refine (callsIn_wide.2 (new_own _)).mono ?_
  rintro e w3 ⟨Ba, Sa, rfl, o3, h3, n3⟩
  gi_wp2
  have b45 := bal (w := w3) (.cells #[.pointer (some ⟨Br, 0, none⟩)] 26)
  have p5 := heap_alloc_new w3 (.cells #[.pointer (some ⟨Br, 0, none⟩)] 26)
  have hz4 : (w3.alloc (.cells #[.pointer (some ⟨Br, 0, none⟩)] 26)).heap.size = w3.heap.size + 1 := by simp
  have b46 := bal (w := w3.alloc (.cells #[.pointer (some ⟨Br, 0, none⟩)] 26)) (.cells #[.pointer (some ⟨Ba, 0, none⟩)] 26)
  have p6 := heap_alloc_new (w3.alloc (.cells #[.pointer (some ⟨Br, 0, none⟩)] 26)) (.cells #[.pointer (some ⟨Ba, 0, none⟩)] 26)
  rw [hz4] at p6
  have bb := b45.trans (b46.mono b45.size)
  have h23 := h2.trans (h3.mono h2.size)
  have q1 := h2.size
  have q2 := h3.size
  have q3 := lt_of_block r3
  have K0 : WL w s w.heap.size (w.heap.size + 1) w3.heap.size (w3.heap.size + 1) Br Ba [] Sr [] Sa ((w3.alloc (.cells #[.pointer (some ⟨Br, 0, none⟩)] 26)).alloc (.cells #[.pointer (some ⟨Ba, 0, none⟩)] 26)) :=
    ⟨(o2.later h3).later bb, o3.later bb, (s3.later h23).later bb, (b46.block _ (lt_of_block p5)).trans p5, p6, (bb.block _ (by omega)).trans ((h23.block _ (lt_of_block r3)).trans r3), b3.trans ((h23.trans (bb.mono h23.size)).mono b3.size),
      fun k hk => by
        have a1 := n3 k hk
        have a2 := o3.lt k hk
        exact ⟨by omega, by omega, by omega, by omega, fun e => by have := o2.lt k e; omega, by omega⟩,
      fun k hk => by
        have a1 := n2 k hk
        have a2 := o2.lt k hk
        exact ⟨by omega, by omega, by omega, by omega, by omega⟩, by omega⟩
  clear b45 p5 hz4 b46 p6 bb h23 h2 h3 o2 o3 n2 n3 s3 r3 b3 hbr
  have hz0 : w.heap.size ≤ w3.heap.size := by omega
  have hbb : ∃ bs br b5 b6 : Nat, w.heap.size = bs ∧ w.heap.size + 1 = br ∧ w3.heap.size = b5 ∧ w3.heap.size + 1 = b6 := ⟨_, _, _, _, rfl, rfl, rfl, rfl⟩
  obtain ⟨bs, br, b5, b6, e1, e2, e3, e4⟩ := hbb
  rw [e2, e1, e4, e3] at K0
  rw [e4, e3]
  clear e3 e4 q1 q2 q3 hz0
  have HE1 := Lib.hid (And.intro e1 e2)
  rw [e2, e1]
  clear e1 e2
  have HK : Hid (∃ l Sr, WL w s bs br b5 b6 Br Ba l Sr [] Sa ((w3.alloc (.cells #[.pointer (some ⟨Br, 0, none⟩)] 26)).alloc (.cells #[.pointer (some ⟨Ba, 0, none⟩)] 26)) ∧ Rn l ∧ l.length ≤ 0) := Lib.hid ⟨[], Sr, K0, Rn.nil, Nat.le_refl _⟩
  clear K0
  gi_loopw [7] (fun i wr => ∃ k : Nat, k ≤ n ∧ k ≤ 100 ∧ i = .int .i64 k ∧ Hid (∃ l Sr, WL w s bs br b5 b6 Br Ba l Sr [] Sa wr ∧ Rn l ∧ l.length ≤ k)) (fun i _ => n - (intOf i).toNat)
  case atStart => exact ⟨0, Nat.zero_le _, Nat.zero_le _, rfl, HK⟩
  case round =>
    obtain ⟨k, hk, hk1, rfl, HR⟩ := hrel
    by_cases hlt : k < n ∧ k < 100
    · obtain ⟨hlt, hlt2⟩ := hlt
      obtain ⟨l, Sr, K1, hln, hll⟩ := HR.out
      obtain ⟨g, o, rfl, hc⟩ := HC.out (by omega)
      obtain ⟨m0, m1⟩ := hc k hlt
      have hbw := K1.below
      replace m0 := (hbw.cell (World.block_lt_of_cell? w _ m0)).trans m0
      replace m1 := (hbw.cell (World.block_lt_of_cell? w _ m1)).trans m1
      have hgw := World.block_lt_of_cell? wr _ m0
      have HG := Lib.hid (World.block_lt_of_cell? w _ (hc k hlt).1)
      generalize li.getD k (0, 0) = x at *
      have hrn := addN_rn (s := x) hln
      have hal := addN_len (s := x) hln
      have HA := Lib.hid (add_own (K1.own.later (Below.refl _ _).drew) hln (by omega) x)
      generalize addN l x = R at *
      have HNX := Lib.hid (fun S' (Y : World) (o5 : Own Br R.2.2 S' Y) (k5 : Kept Sr wr.drew Y) (n5 : ∀ b ∈ S', b ∈ Sr ∨ wr.drew.heap.size ≤ b) => show ∃ l Sr, WL w s bs br b5 b6 Br Ba l Sr [] Sa Y ∧ Rn l ∧ l.length ≤ k + 1 from
        ⟨_, S', (K1.later (Below.refl _ _).drew).addR o5 k5 n5, hrn, by omega⟩)
      have HHE := Lib.hid (fun S' (Y : World) (k5 : Kept Sr wr.drew Y) (n5 : ∀ b ∈ S', b ∈ Sr ∨ wr.drew.heap.size ≤ b) (o5 : Own Br R.2.2 S' Y) => show Y.cell? ⟨b5, 0, none⟩ = some (.pointer (some ⟨Br, 0, none⟩)) ∧ Y.cell? ⟨g, o + k * 2, none⟩ = some (.int .i64 x.1) ∧ Y.cell? ⟨g, o + k * 2 + 1, none⟩ = some (.int .i64 x.2) from
        have hgs : g ∉ Sr := fun e => by have := (K1.dR g e).2.2.2.2; have := HG.out; simp only at this; omega
        ⟨cofr ((K1.later (Below.refl _ _).drew).addR o5 k5 n5).p5 0 _ rfl, (k5.cell (p := ⟨g, _, none⟩) hgs m0), (k5.cell (p := ⟨g, _, none⟩) hgs m1)⟩)
      have hHeld : (fun w' => w'.cell? ⟨b5, 0, none⟩ = some (.pointer (some ⟨Br, 0, none⟩)) ∧ w'.cell? ⟨g, o + k * 2, none⟩ = some (.int .i64 x.1) ∧ w'.cell? ⟨g, o + k * 2 + 1, none⟩ = some (.int .i64 x.2)) wr.drew := ⟨cofr K1.p5 0 _ rfl, m0, m1⟩
      clear K1 hln hll hc hbw HR hrn hal m0 m1 hgw HG
      gi_wp2
      refine wpIn_region_in (S := (fun w' => w'.cell? ⟨b5, 0, none⟩ = some (.pointer (some ⟨Br, 0, none⟩)) ∧ w'.cell? ⟨g, o + k * 2, none⟩ = some (.int .i64 x.1) ∧ w'.cell? ⟨g, o + k * 2 + 1, none⟩ = some (.int .i64 x.2))) hMO ?_
      refine wpAnyH_take (i := 0) (oi := _) (v := ?_) rfl (by kernel_rfl) (by kernel_rfl) (by kernel_rfl) (fun _ _ _ h => h) (Or.inl ⟨by rfl, ?_⟩) (by assumption) ?_
      rotate_left
      · (first | (intro v hSw; (try dsimp only at hSw); go_simp; done) | (intro v hSw; (try dsimp only at hSw); go_simp; with_reducible rfl))
      (try simp only [List.getElem_toArray, List.getElem_cons_succ, List.getElem_cons_zero, Act.put, List.setIfInBounds_toArray, List.set_cons_zero, List.set_cons_succ])
      refine wpAnyH_take (i := 1) (oi := _) (v := ?_) rfl (by kernel_rfl) (by kernel_rfl) (by kernel_rfl) (fun _ _ _ h => h) (Or.inl ⟨by rfl, ?_⟩) (by assumption) ?_
      rotate_left
      · (first | (intro v hSw; (try dsimp only at hSw); go_simp; done) | (intro v hSw; (try dsimp only at hSw); go_simp; with_reducible rfl))
      (try simp only [List.getElem_toArray, List.getElem_cons_succ, List.getElem_cons_zero, Act.put, List.setIfInBounds_toArray, List.set_cons_zero, List.set_cons_succ])
      refine wpAnyH_take (i := 2) (oi := _) (v := ?_) rfl (by kernel_rfl) (by kernel_rfl) (by kernel_rfl) (fun _ _ _ h => h) (Or.inl ⟨by rfl, ?_⟩) (by assumption) ?_
      rotate_left
      · (first | (intro v hSw; (try dsimp only at hSw); go_simp; done) | (intro v hSw; (try dsimp only at hSw); go_simp; with_reducible rfl))
      (try simp only [List.getElem_toArray, List.getElem_cons_succ, List.getElem_cons_zero, Act.put, List.setIfInBounds_toArray, List.set_cons_zero, List.set_cons_succ])
      refine wpAnyH_take (i := 3) (oi := _) (v := ?_) rfl (by kernel_rfl) (by kernel_rfl) (by kernel_rfl) (fun _ _ _ h => h) (Or.inl ⟨by rfl, ?_⟩) (by assumption) ?_
      rotate_left
      · (first | (intro v hSw; (try dsimp only at hSw); go_simp; done) | (intro v hSw; (try dsimp only at hSw); go_simp; with_reducible rfl))
      (try simp only [List.getElem_toArray, List.getElem_cons_succ, List.getElem_cons_zero, Act.put, List.setIfInBounds_toArray, List.set_cons_zero, List.set_cons_succ])
      refine wpAnyH_take (i := 4) (oi := _) (v := ?_) rfl (by kernel_rfl) (by kernel_rfl) (by kernel_rfl) (fun _ _ _ h => h) (Or.inl ⟨by rfl, ?_⟩) (by assumption) ?_
      rotate_left
      · (first | (intro v hSw; (try dsimp only at hSw); go_simp; done) | (intro v hSw; (try dsimp only at hSw); go_simp; with_reducible rfl))
      (try simp only [List.getElem_toArray, List.getElem_cons_succ, List.getElem_cons_zero, Act.put, List.setIfInBounds_toArray, List.set_cons_zero, List.set_cons_succ])
      refine wpAnyH_ready (rs := [5]) (by kernel_rfl) (by simp) ?_
      refine AllReadyH.cons (o := _) rfl (fun K hK => ?_) AllReadyH.nil
      go_simp
      (with_reducible refine HA.out.mono ?_)
      rintro e w5 ⟨rfl, S5, o5, k5, n5⟩
      refine hK.out _ _ ?_ (fun hHeld => ?_)
      · ((try dsimp only); exact HHE.out _ _ k5 n5 o5)
      clear hK K
      (try simp only [List.getElem_toArray, List.getElem_cons_succ, List.getElem_cons_zero, Act.put, List.setIfInBounds_toArray, List.set_cons_zero, List.set_cons_succ])
      refine wpAnyH_done (by kernel_rfl) ?_ _
      refine OnlyN.normal ?_
      have HK5 := Lib.hid (HNX.out _ _ o5 k5 n5)
      clear hHeld o5 k5 n5 HA HNX
      gi_wp2
      go_roundw
      case rel => exact ⟨k + 1, by omega, by omega, by go_num, HK5⟩
      case measure => simp [intOf]; omega
    · rcases (show (k < n ∧ ¬ k < 100) ∨ ¬ k < n by omega) with ⟨h1, h2⟩ | h1
      all_goals
        obtain ⟨l, Sr, K1, hln, hll⟩ := HR.out
        have hl100 : l.length ≤ 100 := by omega
        clear HR HC
        obtain ⟨e1, e2⟩ := HE1.out
        have b1 := bal (w := wr) (.cells #[.int .i64 0] 3)
        have n1 := heap_alloc_new wr (.cells #[.int .i64 0] 3)
        have hz1 : (wr.alloc (.cells #[.int .i64 0] 3)).heap.size = wr.heap.size + 1 := by simp
        obtain ⟨q1, q2, q3, q4, q5, q6⟩ := K1.lt
        have qw := K1.below.size
        have K2 : WS w s bs br b5 b6 wr.heap.size Br Ba l Sr 0 [] Sa (wr.alloc (.cells #[.int .i64 0] 3)) :=
          ⟨K1.later b1, n1, ⟨by omega, by omega, by omega, by omega, fun e => by have := q5 _ e; omega, qw⟩, fun e => by have := q6 _ e; omega⟩
        have hbk : wr.heap.size < (wr.alloc (.cells #[.int .i64 0] 3)).heap.size := by omega
        have c5 := cofr K2.wl.p5 0 _ rfl
        have d0 := K2.wl.sp.c0; have d1 := K2.wl.sp.c1
        obtain ⟨av, nv, cv, hv, hvl, hvs⟩ := K2.wl.own.rv
        have HP := Lib.hid (gaps_any hv hln (by omega) s (fun k => k = wr.heap.size ∨ k ∈ Sa) (fun k hk => by
          rcases hk with hk | hk
          · rw [hk]; exact hbk
          · exact K2.wl.all.lt k hk) (fun b hb e => by
          rcases e with e | e
          · exact K2.dn.2.2.2.2.1 (e ▸ hvs _ hb)
          · exact (K2.wl.dA b e).2.2.2.2.1 (hvs b hb)))
        have HK2 := Lib.hid K2
        have HQ := Lib.hid (And.intro hl100 hln)
        clear K1 b1 n1 hz1 q1 q2 q3 q4 q5 q6 qw hv hvl hvs K2 hll hl100 hln
        gi_wp2
        refine ⟨trivial, ?_⟩
        refine (callsIn_wide.2 HP.out).mono ?_
        rintro e w9 ⟨lb, rfl, hseq, h9⟩
        have K9 := HK2.out.later h9
        have HSEQ := Lib.hid hseq
        obtain ⟨hl100, hln⟩ := HQ.out
        have hGl := gaps_len s hln
        have hGr := gaps_rn s hln
        have HPR := Lib.hid (fun (pre : List Sp) (y : Sp) (hp : pre ++ [y] <+: gapsL l s) => show addN pre y = (lenI y, 0, pre ++ [y]) ∧ Rn pre ∧ pre.length ≤ 4096 ∧ withinL l y = 0 ∧ bytesL (pre ++ [y]) = bytesL pre + lenI y ∧ 0 ≤ bytesL pre ∧ bytesL (pre ++ [y]) ≤ 4611686018427387904 from by
          have hm : y ∈ gapsL l s := hp.subset (by simp)
          have hlen := hp.length_le
          obtain ⟨t, ht⟩ := hp
          have hr : Rn (pre ++ [y]) := by rw [← ht] at hGr; exact hGr.left
          have hy := hr.ok y (by simp)
          have hlt : ∀ x ∈ pre, x.2 < y.1 := fun x hx => (List.pairwise_append.1 hr.up).2.2 x hx y (by simp)
          simp only [List.length_append, List.length_singleton] at hlen
          have ha := addN_end hr.left hy hlt (by omega)
          rw [← len_rok hy] at ha
          exact ⟨ha, hr.left, by omega, gap_out hln hm, by rw [bytes_append, bytes_cons, bytes_nil]; omega, hr.left.bytes.1, hr.bytes.2⟩)
        have h9z := h9.size
        have hbn9 : wr.heap.size < w9.heap.size := by omega
        obtain ⟨q1, q2, q3, q4, q5, q6⟩ := K9.wl.lt
        have HLT := Lib.hid (And.intro q1 (And.intro q2 (And.intro q3 (And.intro q4 (And.intro q5 (And.intro (show w.heap.size ≤ w9.heap.size from K9.wl.below.size) hbn9))))))
        have HK9 := Lib.hid K9
        clear hseq h9 HK2 HP c5 d0 d1 K9 hGl hGr q1 q2 q3 q4 q5 q6 hbk h9z
        generalize wr.heap.size = bn at *
        gi_wp2
        refine wpIn_rangeBoxP (fun (b : Nat) (y : Sp) (t : Array Value) => (t.setIfInBounds 36 (spV y)).setIfInBounds 9 (.pointer (some ⟨b, 0, none⟩))) (gf := 48) (lb := lb) (L := gapsL l s) (A := fun k => k = bn ∨ k ∈ Sa) (w0 := w9) (encs := spE) rfl eg_gaps HSEQ.out (Below.refl _ _) (fun _ => rfl)
          (J1 w s bs br b5 b6 bn Br Ba l Sr) NoX (fun k => k = bn ∨ k ∈ Sa) ?hc0 ?hI (nox_bears _) ?h0 (B1 w s bs br b5 b6 bn Br Ba l Sr w9.heap.size) ?hB ?assign ?body ?done ?stop
        case hc0 =>
          intro k hk
          refine ⟨.inl hk, ?_⟩
          rcases hk with rfl | hk
          · exact hbn9
          · exact HK9.out.wl.all.lt k hk
        case hI =>
          rintro pre C X Y ⟨S', h, h1, h2⟩ hz hs
          obtain ⟨q1, q2, q3, q4, q5, q6, q7⟩ := HLT.out
          exact ⟨S', ws_bears h hs h2 q1 q2 q3 q4 q5 q6 q7, h1, h2⟩
        case h0 => exact ⟨Sa, HK9.out, .inl rfl, fun k hk => .inr hk⟩
        case hB =>
          rintro pre b y _ C X Y ⟨S', h, h1, h2, h3, h4, h5⟩ hz hs
          obtain ⟨q1, q2, q3, q4, q5, q6, q7⟩ := HLT.out
          exact ⟨S', ws_bears h hs (fun k hk => (h2 k hk).1) q1 q2 q3 q4 q5 q6 q7, h1, h2, hs.heap (.inr h4) h3, h4, h5⟩
        case assign =>
          rintro l' pre y C X K ⟨S', h, h1, h2⟩ hp hc hz hK
          have b1 := bal (w := X) (.cells #[.int .i64 y.1, .int .i64 y.2] 24)
          have HK := Lib.hid (hK X.heap.size (fun k => C k ∨ k = X.heap.size) _ ⟨Steps.of_below b1 _, fun k hk => by rcases hk with hk | rfl; exact .inl hk; exact .inr ⟨Nat.le_refl _, by simp⟩⟩
            ⟨S', h.later b1, .inl h1, fun k hk => .inl (h2 k hk)⟩ ⟨S', h.later b1, .inl h1, fun k hk => ⟨.inl (h2 k hk), by have := h.wl.all.lt k hk; omega⟩, sp_new X y, .inr rfl, hz⟩)
          clear hK h h1 h2 hp hc b1
          gi_wp2
          exact HK.out
        case body =>
          rintro l' pre y b C X _ ⟨S', h, hb, hC, hyb, hCb, hnb⟩ hp hcc hz
          obtain ⟨ha, hrp, hlp, hwo, hby, hb0, hb1⟩ := HPR.out pre y hp
          have HA := Lib.hid (add_own h.wl.all hrp hlp y)
          rw [ha] at HA
          obtain ⟨hl100, hln⟩ := HQ.out
          have hbb : bn ≠ b := by omega
          have hw1 : IntKind.i64.wrap (bytesL pre + lenI y) = bytesL pre + lenI y := IntWalk.i64_in _ (by have := lenI_bd y; rw [hby] at hb1; omega)
          have HLN := Lib.hid (fun X => rlen_any y X)
          have HWI := Lib.hid (fun (X : World) (ho : Own Br l Sr X) => within_own ho hln (by omega) y)
          rw [hwo] at HWI
          have c6 := cofr h.wl.p6 0 _ rfl
          have e0 := hyb.c0; have e1 := hyb.c1
          have HH := Lib.hid (And.intro h (And.intro hb (And.intro hC (And.intro hyb hcc))))
          have HBY := Lib.hid hby
          generalize hRP : rPost (J1 w s bs br b5 b6 bn Br Ba l Sr) NoX (pre ++ [y]) C X = RP at *
          have HRN := Lib.hid (fun (C' : Nat → Prop) (W' : World) (hr : Round C X C' W') (hg : J1 w s bs br b5 b6 bn Br Ba l Sr (pre ++ [y]) C' W') (a' : Act) => show RP .normal a' W' from by rw [← hRP]; exact ⟨C', hr, hg⟩)
          clear hRP h hb hC hyb hCb hp hcc HPR HSEQ HK9 ha hrp hlp hwo hby hb0 hb1 hl100 hln
          simp only [List.setIfInBounds_toArray, List.set_cons_zero, List.set_cons_succ]
          gi_wp2
          refine ⟨trivial, ?_⟩
          refine (callsIn_wide.2 HA.out).mono ?_
          rintro e w2 ⟨rfl, S2, o2, k2, n2⟩
          obtain ⟨h, hb, hC, hyb, hcc⟩ := HH.out
          have K2 := h.addA o2 k2 n2
          have y2 : SpAt w2 b y := k2.heap (fun e => (hC b e).2 rfl) hyb
          have K3 := K2.put (bytesL pre + lenI y)
          have y3 : SpAt (w2.setCell ⟨bn, 0, none⟩ (.int .i64 (bytesL pre + lenI y))) b y := (Below.heap_setCell w2 ⟨bn, 0, none⟩ _ b (by simpa using hbb.symm)).trans y2
          have r2 : Round C X (fun k => C k ∨ k ∈ S2) w2 := ⟨Steps.of_kept k2 _ (fun k hk q => q (hC k hk).1), fun k hk => by
            rcases hk with hk | hk
            · exact .inl hk
            · rcases n2 k hk with q | q
              · exact .inl (hC k q).1
              · exact .inr ⟨q, o2.lt k hk⟩⟩
          have r3 : Round C X (fun k => C k ∨ k ∈ S2) (w2.setCell ⟨bn, 0, none⟩ (.int .i64 (bytesL pre + lenI y))) := ⟨r2.1.trans (rng.Steps.setCell _ w2 ⟨bn, 0, none⟩ _ (fun hh => hh hb)), fun k hk => by
            rcases r2.2 k hk with q | q
            · exact .inl q
            · exact .inr ⟨q.1, by have := q.2; simpa using this⟩⟩
          have HEND := Lib.hid (fun (W' : World) (h5 : Below (w2.setCell ⟨bn, 0, none⟩ (.int .i64 (bytesL pre + lenI y))).heap.size (w2.setCell ⟨bn, 0, none⟩ (.int .i64 (bytesL pre + lenI y))) W') => HRN.out (fun k => C k ∨ k ∈ S2) W' (r3.trans (Round.of_below h5 _)) ⟨S2, by rw [HBY.out]; exact K3.later h5, .inl hb, fun k hk => .inr hk⟩)
          have cn := cofr K2.hn 0 _ rfl
          have fn : w2.frozen? ⟨bn, 0, none⟩ = false := fofr K2.hn 0
          have g0 := y3.c0; have g1 := y3.c1
          have c5 := cofr K3.wl.p5 0 _ rfl
          have HK3 := Lib.hid (And.intro K3 y3)
          clear K2 K3 y2 y3 r2 r3 h hb hC hyb hcc o2 k2 n2 c6 e0 e1 HA HH HRN
          gi_wp2
          refine ⟨trivial, ?_⟩
          refine (callsIn_wide.2 (HLN.out _)).mono ?_
          rintro e w4 ⟨rfl, h4⟩
          obtain ⟨K3, y3⟩ := HK3.out
          have K4 := K3.later h4
          have y4 := y3.later h4
          have HWI4 := Lib.hid (HWI.out _ K4.wl.own)
          clear c5 g0 g1 cn fn K3 y3 HK3
          have c5 := cofr K4.wl.p5 0 _ rfl
          have g0 := y4.c0; have g1 := y4.c1
          have HH4 := Lib.hid h4
          clear K4 y4 h4
          gi_wp2
          refine ⟨trivial, ?_⟩
          refine (callsIn_wide.2 HWI4.out).mono ?_
          rintro e w5 ⟨rfl, h5⟩
          have HF := Lib.hid (HEND.out w5 (HH4.out.trans (h5.mono HH4.out.size)))
          clear c5 g0 g1 h5 HEND HH4 HWI4
          gi_wp2
          exact HF.out _
        case stop =>
          rintro D c pre C X hD hCD hI hK
          exact hI.elim
        case done =>
          rintro D C X hD hCD ⟨Sb, KX, hbC, hSC⟩ hK
          obtain ⟨hl100, hln⟩ := HQ.out
          obtain ⟨av, nv, cv, hv, hvl, hvs⟩ := KX.wl.own.rv
          have HP := Lib.hid (all1_any hv hln (by omega) (fun k => k ∈ Sb) (fun k hk => KX.wl.all.lt k hk) (fun b hb e => (KX.wl.dA b e).2.2.2.2.1 (hvs b hb)))
          have hGl := gaps_len s hln
          have hGr := gaps_rn s hln
          have HWD : Hid (w.heap.size ≤ D ∧ br < D) := Lib.hid (by obtain ⟨q1, q2, q3, q4, q5, q6, q7⟩ := HLT.out; exact ⟨by omega, by omega⟩)
          have hDn : ∀ k ∈ Sb, k ≠ D := fun k hk e => hCD (e ▸ hSC k hk)
          have c5 := cofr KX.wl.p5 0 _ rfl
          have hDX := lt_of_block hK
          have HD := Lib.hid (And.intro hDn (And.intro hK KX))
          clear hv hvl hvs hSC hCD hbC KX hK hDn HPR HSEQ HK9 HLT
          gi_wp2
          refine ⟨trivial, ?_⟩
          refine (callsIn_wide.2 HP.out).mono ?_
          rintro e wa ⟨lc, rfl, hseq, h9⟩
          obtain ⟨hDn, hK, KX⟩ := HD.out
          have KA := KX.later h9
          have hKA := (h9.block _ hDX).trans hK
          have HSEQ := Lib.hid hseq
          have h9z := h9.size
          have HPR := Lib.hid (fun (pre : List Sp) (y : Sp) (hp : pre ++ [y] <+: l) => show addN (mfold (gapsL l s) pre s) (meetP y s) = (bytesL (mfold (gapsL l s) (pre ++ [y]) s) - bytesL (mfold (gapsL l s) pre s), 0, mfold (gapsL l s) (pre ++ [y]) s) ∧ Rn (mfold (gapsL l s) pre s) ∧ (mfold (gapsL l s) pre s).length ≤ 4096 from by
            have hlen := hp.length_le
            obtain ⟨t, ht⟩ := hp
            have hr : Rn (pre ++ [y]) := by rw [← ht] at hln; exact hln.left
            simp only [List.length_append, List.length_singleton] at hlen
            obtain ⟨m1, m2, m3⟩ := mfold_spec (s := s) pre hGr hr.left.ok
            obtain ⟨m4, m5, m6⟩ := mfold_spec (s := s) (pre ++ [y]) hGr hr.ok
            simp only [List.length_append, List.length_singleton] at m6
            have hm := meet_okk (hr.ok y (by simp)) s
            rw [mfold_snoc] at m6 ⊢
            exact ⟨addN_ok m1 hm (by omega), m1, by omega⟩)
          have HDA : D < wa.heap.size := by omega
          obtain ⟨q1, q2, q3, q4, q5, q6⟩ := KA.wl.lt
          have HLT := Lib.hid (And.intro q1 (And.intro q2 (And.intro q3 (And.intro q4 (And.intro q5 (And.intro (show w.heap.size ≤ wa.heap.size from KA.wl.below.size) (lt_of_block KA.hn)))))))
          have HKA := Lib.hid (And.intro KA (And.intro hKA hDn))
          have HTOT := Lib.hid (gaps_all s hln).2.2.2
          have HWH := Lib.hid (whole_eq s hln)
          have HWI := Lib.hid (fun (X : World) (ho : Own Br l Sr X) => within_own ho hln (by omega) s)
          have hwl := within_le s hln.ok
          have hbl := hln.bytes
          generalize gapsL l s = G at *
          generalize hz0 : bytesL G = z at *
          clear hz0 hseq h9 HD HP c5 KX KA hKA hDn hK hGl hGr q1 q2 q3 q4 q5 q6 h9z hDX hl100
          gi_wp2
          refine wpIn_rangeBoxP (fun (b : Nat) (y : Sp) (t : Array Value) => (t.setIfInBounds 62 (spV y)).setIfInBounds 12 (.pointer (some ⟨b, 0, none⟩))) (gf := 71) (lb := lc) (L := l) (A := fun k => k ∈ Sb) (w0 := wa) (encs := spE) rfl eg_parts HSEQ.out (Below.refl _ _) (fun _ => rfl)
            (J2 w s bs br b5 b6 bn Br Ba l Sr D z G) NoX (fun k => k ∈ Sb) ?hc0 ?hI (nox_bears _) ?h0 (B2 w s bs br b5 b6 bn Br Ba l Sr D z G wa.heap.size) ?hB ?assign ?body ?done ?stop
          case hc0 =>
            intro k hk
            exact ⟨.inl hk, HKA.out.1.wl.all.lt k hk⟩
          case hI =>
            rintro pre C X Y ⟨S', h, h1, h2⟩ hz hs
            obtain ⟨q1, q2, q3, q4, q5, q6, q7⟩ := HLT.out
            exact ⟨S', ws_bears h hs (fun k hk => (h1 k hk).1) q1 q2 q3 q4 q5 q6 q7, h1, hs.heap (.inl HDA) h2⟩
          case h0 => exact ⟨Sb, HKA.out.1, fun k hk => ⟨hk, HKA.out.2.2 k hk⟩, HKA.out.2.1⟩
          case hB =>
            rintro pre b y _ C X Y ⟨S', h, h1, h2, h3, h4, h5⟩ hz hs
            obtain ⟨q1, q2, q3, q4, q5, q6, q7⟩ := HLT.out
            exact ⟨S', ws_bears h hs (fun k hk => (h1 k hk).1) q1 q2 q3 q4 q5 q6 q7, h1, hs.heap (.inl HDA) h2, hs.heap (.inr h4) h3, h4, h5⟩
          case assign =>
            rintro l' pre y C X K ⟨S', h, h1, h2⟩ hp hc hz hK
            have b1 := bal (w := X) (.cells #[.int .i64 y.1, .int .i64 y.2] 24)
            have hDk := (b1.block _ (lt_of_block h2)).trans h2
            have HK := Lib.hid (hK X.heap.size (fun k => C k ∨ k = X.heap.size) _ ⟨Steps.of_below b1 _, fun k hk => by rcases hk with hk | rfl; exact .inl hk; exact .inr ⟨Nat.le_refl _, by simp⟩⟩
              ⟨S', h.later b1, fun k hk => ⟨.inl (h1 k hk).1, (h1 k hk).2⟩, hDk⟩ ⟨S', h.later b1, fun k hk => ⟨.inl (h1 k hk).1, (h1 k hk).2, by have := h.wl.all.lt k hk; omega⟩, hDk, sp_new X y, .inr rfl, hz⟩)
            clear hK h h1 h2 hp hc b1 hDk
            gi_wp2
            exact HK.out
          case body =>
            rintro l' pre y b C X _ ⟨S', h, h1, h2, hyb, hCb, hnb⟩ hp hcc hz
            obtain ⟨ha, hrm, hlm⟩ := HPR.out pre y hp
            have HA := Lib.hid (fun Z (o : Own Ba (mfold G pre s) S' Z) => add_own o hrm hlm (meetP y s))
            rw [ha] at HA
            have HM := Lib.hid (fun Z => rmeet_any y s Z)
            have hd := h.later (Below.refl X.heap.size X).drew
            have hyd := hyb.later (Below.refl X.heap.size X).drew
            have hbn : b ∉ S' := fun e => (h1 b e).2.2 rfl
            have HEND := Lib.hid (fun (w2 w3 : World) (S3 : List Nat) (h2' : Below X.drew.heap.size X.drew w2) (o3 : Own Ba (mfold G (pre ++ [y]) s) S3 w3) (k3 : Kept S' w2 w3) (n3 : ∀ b ∈ S3, b ∈ S' ∨ w2.heap.size ≤ b) (a' : Act) =>
              show rPost (J2 w s bs br b5 b6 bn Br Ba l Sr D z G) NoX (pre ++ [y]) C X .normal a' w3 from by
                have h2u := undrew h2'
                have hs2 := h2u.size
                have K2 := h.later h2u
                have K3 := K2.addA o3 k3 n3
                have hD3 := k3.heap (fun e => (h1 D e).2.1 rfl) ((h2u.block _ (lt_of_block h2)).trans h2)
                have hDX := lt_of_block h2
                exact ⟨fun k => C k ∨ k ∈ S3, ⟨(Steps.of_below h2u _).trans (Steps.of_kept k3 _ (fun k hk q => q (h1 k hk).1)), fun k hk => by
                  rcases hk with hk | hk
                  · exact .inl hk
                  · rcases n3 k hk with q | q
                    · exact .inl (h1 k q).1
                    · exact .inr ⟨by omega, o3.lt k hk⟩⟩, S3, K3, fun k hk => ⟨.inr hk, fun e => by
                      rcases n3 k hk with q | q
                      · exact (h1 k q).2.1 e
                      · omega⟩, hD3⟩)
            have hHeld : (fun w' => w'.cell? ⟨b6, 0, none⟩ = some (.pointer (some ⟨Ba, 0, none⟩)) ∧ w'.cell? ⟨b, 0, none⟩ = some (.int .i64 y.1) ∧ w'.cell? ⟨b, 1, none⟩ = some (.int .i64 y.2) ∧ w'.cell? ⟨bs, 0, none⟩ = some (.int .i64 s.1) ∧ w'.cell? ⟨bs, 1, none⟩ = some (.int .i64 s.2)) X.drew := ⟨cofr hd.wl.p6 0 _ rfl, hyd.c0, hyd.c1, hd.wl.sp.c0, hd.wl.sp.c1⟩
            generalize hRP : rPost (J2 w s bs br b5 b6 bn Br Ba l Sr D z G) NoX (pre ++ [y]) C X = RP at *
            generalize hMM : meetP y s = mm at *
            clear hRP hMM h h1 h2 hyb hCb hnb hp hcc HPR HSEQ HKA HTOT HWH HWI ha hrm hlm HLT
            simp only [List.setIfInBounds_toArray, List.set_cons_zero, List.set_cons_succ]
            gi_wp2
            refine wpIn_region_inR (S := (fun w' => w'.cell? ⟨b6, 0, none⟩ = some (.pointer (some ⟨Ba, 0, none⟩)) ∧ w'.cell? ⟨b, 0, none⟩ = some (.int .i64 y.1) ∧ w'.cell? ⟨b, 1, none⟩ = some (.int .i64 y.2) ∧ w'.cell? ⟨bs, 0, none⟩ = some (.int .i64 s.1) ∧ w'.cell? ⟨bs, 1, none⟩ = some (.int .i64 s.2))) hMO (by kernel_rfl) ?_
            refine wpAnyH_take (i := 0) (oi := _) (v := ?_) rfl (by kernel_rfl) (by kernel_rfl) (by kernel_rfl) (fun _ _ _ h => h) (Or.inl ⟨by rfl, ?_⟩) (by assumption) ?_
            rotate_left
            · (first | (intro v hSw; (try dsimp only at hSw); go_simp; done) | (intro v hSw; (try dsimp only at hSw); go_simp; with_reducible rfl))
            (try simp only [List.getElem_toArray, List.getElem_cons_succ, List.getElem_cons_zero, Act.put, List.setIfInBounds_toArray, List.set_cons_zero, List.set_cons_succ])
            refine wpAnyH_take (i := 1) (oi := _) (v := ?_) rfl (by kernel_rfl) (by kernel_rfl) (by kernel_rfl) (fun _ _ _ h => h) (Or.inl ⟨by rfl, ?_⟩) (by assumption) ?_
            rotate_left
            · (first | (intro v hSw; (try dsimp only at hSw); go_simp; done) | (intro v hSw; (try dsimp only at hSw); go_simp; with_reducible rfl))
            (try simp only [List.getElem_toArray, List.getElem_cons_succ, List.getElem_cons_zero, Act.put, List.setIfInBounds_toArray, List.set_cons_zero, List.set_cons_succ])
            refine wpAnyH_take (i := 2) (oi := _) (v := ?_) rfl (by kernel_rfl) (by kernel_rfl) (by kernel_rfl) (fun _ _ _ h => h) (Or.inl ⟨by rfl, ?_⟩) (by assumption) ?_
            rotate_left
            · (first | (intro v hSw; (try dsimp only at hSw); go_simp; done) | (intro v hSw; (try dsimp only at hSw); go_simp; with_reducible rfl))
            (try simp only [List.getElem_toArray, List.getElem_cons_succ, List.getElem_cons_zero, Act.put, List.setIfInBounds_toArray, List.set_cons_zero, List.set_cons_succ])
            refine wpAnyH_ready (rs := [3]) (by kernel_rfl) (by simp) ?_
            refine AllReadyH.cons (o := _) rfl (fun K hK => ?_) AllReadyH.nil
            go_simp
            (refine (HM.out _).mono ?_)
            rintro e w2 ⟨rfl, h2⟩
            have K2 := hd.later h2
            have y2 := hyd.later h2
            refine hK.out _ _ ?_ (fun hHeld => ?_)
            · ((try dsimp only); exact ⟨cofr K2.wl.p6 0 _ rfl, y2.c0, y2.c1, K2.wl.sp.c0, K2.wl.sp.c1⟩)
            clear hK K
            (try simp only [List.getElem_toArray, List.getElem_cons_succ, List.getElem_cons_zero, Act.put, List.setIfInBounds_toArray, List.set_cons_zero, List.set_cons_succ])
            refine wpAnyH_ready (rs := [4]) (by kernel_rfl) (by simp) ?_
            refine AllReadyH.cons (o := _) rfl (fun K hK => ?_) AllReadyH.nil
            go_simp
            (refine (HA.out _ K2.wl.all).mono ?_)
            rintro e w3 ⟨rfl, S3, o3, k3, n3⟩
            have K3 := K2.addA o3 k3 n3
            have y3 : SpAt w3 b y := k3.heap hbn y2
            refine hK.out _ _ ?_ (fun hHeld => ?_)
            · ((try dsimp only); exact ⟨cofr K3.wl.p6 0 _ rfl, y3.c0, y3.c1, K3.wl.sp.c0, K3.wl.sp.c1⟩)
            clear hK K
            (try simp only [List.getElem_toArray, List.getElem_cons_succ, List.getElem_cons_zero, Act.put, List.setIfInBounds_toArray, List.set_cons_zero, List.set_cons_succ])
            refine wpAnyH_done (by kernel_rfl) ?_ _
            refine OnlyN.normal ?_
            have HE := Lib.hid (HEND.out w2 w3 S3 h2 o3 k3 n3)
            clear hHeld hd hyd K2 y2 K3 y3 o3 k3 n3 h2 HEND HA HM
            gi_wp2
            exact HE.out _
          case stop =>
            rintro D c pre C X hD hCD hI hK
            exact hI.elim
          case done =>
            rintro D2 C X hD2 hCD2 ⟨Sc, KX, hSC, hDD⟩ hK2
            rw [HWH.out] at KX
            have htot := HTOT.out
            have hly := lenI_bd s
            have HBY := Lib.hid (fun X (ho : Own Ba (ne s) Sc X) => bytes_own ho (ne_rn s) (by unfold ne; split <;> simp))
            rw [bytes_ne] at HBY
            have HLN := Lib.hid (fun X => rlen_any s X)
            have hwr : IntKind.i64.wrap (z + withinL l s) = lenI s := by
              rw [show z + withinL l s = lenI s by omega]
              exact IntWalk.i64_in _ (by omega)
            have K0 := KX.later (Below.refl X.heap.size X).drew
            have hrb : br ≠ b5 ∧ br ≠ b6 ∧ br ≠ bs := ⟨fun e => by
                have h1 := K0.wl.hr
                rw [e, K0.wl.p5] at h1
                simp at h1, fun e => by
                have h1 := K0.wl.hr
                rw [e, K0.wl.p6] at h1
                simp at h1, fun e => by
                have h1 := K0.wl.hr
                rw [e, show X.drew.heap[bs]? = _ from K0.wl.sp] at h1
                simp at h1⟩
            have hDX : X.drew.heap[D]? = some (.deferred (some [])) := hDD
            have hD2X : X.drew.heap[D2]? = some (.deferred (some [])) := hK2
            obtain ⟨hwD, hbrD⟩ := HWD.out
            have HFIN := Lib.hid (fun (Y : World) (hY : Below X.drew.heap.size X.drew Y) => show (Y.setCell ⟨br, 0, none⟩ (.bool true)).heap[D2]? = some (.deferred (some [])) ∧ ((Y.setCell ⟨br, 0, none⟩ (.bool true)).putObj D2 (.deferred none)).heap[D]? = some (.deferred (some [])) ∧ (((Y.setCell ⟨br, 0, none⟩ (.bool true)).putObj D2 (.deferred none)).putObj D (.deferred none)).cell? ⟨br, 0, none⟩ = some (.bool true) ∧ Below w.heap.size w (((Y.setCell ⟨br, 0, none⟩ (.bool true)).putObj D2 (.deferred none)).putObj D (.deferred none)) from by
              have KY := K0.later hY
              have e1 : (Y.setCell ⟨br, 0, none⟩ (.bool true)).heap[D2]? = some (.deferred (some [])) := (Below.heap_setCell Y ⟨br, 0, none⟩ _ D2 (by simp; omega)).trans ((hY.block _ (lt_of_block hD2X)).trans hD2X)
              have e2 : (Y.setCell ⟨br, 0, none⟩ (.bool true)).heap[D]? = some (.deferred (some [])) := (Below.heap_setCell Y ⟨br, 0, none⟩ _ D (by simp; omega)).trans ((hY.block _ (lt_of_block hDX)).trans hDX)
              have e3 : (Y.setCell ⟨br, 0, none⟩ (.bool true)).heap[br]? = some (.cells #[.bool true] 4 (0, 0)) := (heap_setCell_same Y br 0 _ _ _ KY.wl.hr).trans rfl
              have e4 : (((Y.setCell ⟨br, 0, none⟩ (.bool true)).putObj D2 (.deferred none)).putObj D (.deferred none)).heap[br]? = some (.cells #[.bool true] 4 (0, 0)) := (World.putObj_heap_other (by omega)).trans ((World.putObj_heap_other (by omega)).trans e3)
              have b1 := KY.wl.below
              have b2 := b1.trans ((rng.Steps.setCell (fun q => q < w.heap.size) Y ⟨br, 0, none⟩ (.bool true) (by have := KY.wl.ge; simp only; omega)).below (n := w.heap.size) b1.size (fun _ h => h))
              have b3 := b2.trans ((rng.Steps.putObj (fun q => q < w.heap.size) _ D2 (.deferred none) (by omega)).below (n := w.heap.size) b2.size (fun _ h => h))
              have b4 := b3.trans ((rng.Steps.putObj (fun q => q < w.heap.size) _ D (.deferred none) (by omega)).below (n := w.heap.size) b3.size (fun _ h => h))
              exact ⟨e1, (World.putObj_heap_other (by omega)).trans e2, (cell_of_row _ br 0 _ _ (0, 0) e4).trans rfl, b4⟩)
            have HKP := Lib.hid (fun (Y : World) (KY : WS w s bs br b5 b6 bn Br Ba l Sr z (ne s) Sc Y) => show Y.cell? ⟨b5, 0, none⟩ = some (.pointer (some ⟨Br, 0, none⟩)) ∧ Y.cell? ⟨b6, 0, none⟩ = some (.pointer (some ⟨Ba, 0, none⟩)) ∧ Y.cell? ⟨bn, 0, none⟩ = some (.int .i64 z) ∧ Y.cell? ⟨bs, 0, none⟩ = some (.int .i64 s.1) ∧ Y.cell? ⟨bs, 1, none⟩ = some (.int .i64 s.2) from
              ⟨cofr KY.wl.p5 0 _ rfl, cofr KY.wl.p6 0 _ rfl, cofr KY.hn 0 _ rfl, KY.wl.sp.c0, KY.wl.sp.c1⟩)
            have HKS := Lib.hid (fun (Y : World) (v : Value) (KY : WS w s bs br b5 b6 bn Br Ba l Sr z (ne s) Sc Y) => show (Y.setCell ⟨br, 0, none⟩ v).cell? ⟨b5, 0, none⟩ = some (.pointer (some ⟨Br, 0, none⟩)) ∧ (Y.setCell ⟨br, 0, none⟩ v).cell? ⟨b6, 0, none⟩ = some (.pointer (some ⟨Ba, 0, none⟩)) ∧ (Y.setCell ⟨br, 0, none⟩ v).cell? ⟨bn, 0, none⟩ = some (.int .i64 z) ∧ (Y.setCell ⟨br, 0, none⟩ v).cell? ⟨bs, 0, none⟩ = some (.int .i64 s.1) ∧ (Y.setCell ⟨br, 0, none⟩ v).cell? ⟨bs, 1, none⟩ = some (.int .i64 s.2) from by
              obtain ⟨a1, a2, a3, a4, a5⟩ := HKP.out Y KY
              have dbn := KY.dn.2.1
              obtain ⟨x1, x2, x3⟩ := hrb
              exact ⟨(set_other (by simp [x1])).trans a1, (set_other (by simp [x2])).trans a2, (set_other (by simp [dbn.symm])).trans a3, (set_other (by simp [x3])).trans a4, (set_other (by simp [x3])).trans a5⟩)
            have hHeld : (fun w' => w'.cell? ⟨b5, 0, none⟩ = some (.pointer (some ⟨Br, 0, none⟩)) ∧ w'.cell? ⟨b6, 0, none⟩ = some (.pointer (some ⟨Ba, 0, none⟩)) ∧ w'.cell? ⟨bn, 0, none⟩ = some (.int .i64 z) ∧ w'.cell? ⟨bs, 0, none⟩ = some (.int .i64 s.1) ∧ w'.cell? ⟨bs, 1, none⟩ = some (.int .i64 s.2)) X.drew := HKP.out _ K0
            clear KX hSC hDD hK2 hDX hD2X HPR HSEQ HKA HTOT HWH HLT htot hrb hly hwl hbl
            have hbd := Below.refl X.drew.heap.size X.drew
            by_cases h0 : lenI s = 0
            · generalize lenI s = L at *
              subst h0
              gi_wp2
              refine wpIn_region_in (S := (fun w' => w'.cell? ⟨b5, 0, none⟩ = some (.pointer (some ⟨Br, 0, none⟩)) ∧ w'.cell? ⟨b6, 0, none⟩ = some (.pointer (some ⟨Ba, 0, none⟩)) ∧ w'.cell? ⟨bn, 0, none⟩ = some (.int .i64 z) ∧ w'.cell? ⟨bs, 0, none⟩ = some (.int .i64 s.1) ∧ w'.cell? ⟨bs, 1, none⟩ = some (.int .i64 s.2))) hMO ?_
              refine wpAnyH_take (i := 0) (oi := _) (v := ?_) rfl (by kernel_rfl) (by kernel_rfl) (by kernel_rfl) (fun _ _ _ h => h) (Or.inl ⟨by rfl, ?_⟩) (by assumption) ?_
              rotate_left
              · (first | (intro v hSw; (try dsimp only at hSw); go_simp; done) | (intro v hSw; (try dsimp only at hSw); go_simp; with_reducible rfl))
              (try simp only [List.getElem_toArray, List.getElem_cons_succ, List.getElem_cons_zero, Act.put, List.setIfInBounds_toArray, List.set_cons_zero, List.set_cons_succ])
              refine wpAnyH_take (i := 1) (oi := _) (v := ?_) rfl (by kernel_rfl) (by kernel_rfl) (by kernel_rfl) (fun _ _ _ h => h) (Or.inl ⟨by rfl, ?_⟩) (by assumption) ?_
              rotate_left
              · (first | (intro v hSw; (try dsimp only at hSw); go_simp; done) | (intro v hSw; (try dsimp only at hSw); go_simp; with_reducible rfl))
              (try simp only [List.getElem_toArray, List.getElem_cons_succ, List.getElem_cons_zero, Act.put, List.setIfInBounds_toArray, List.set_cons_zero, List.set_cons_succ])
              refine wpAnyH_take (i := 2) (oi := _) (v := ?_) rfl (by kernel_rfl) (by kernel_rfl) (by kernel_rfl) (fun _ _ _ h => h) (Or.inl ⟨by rfl, ?_⟩) (by assumption) ?_
              rotate_left
              · (first | (intro v hSw; (try dsimp only at hSw); go_simp; done) | (intro v hSw; (try dsimp only at hSw); go_simp; with_reducible rfl))
              (try simp only [List.getElem_toArray, List.getElem_cons_succ, List.getElem_cons_zero, Act.put, List.setIfInBounds_toArray, List.set_cons_zero, List.set_cons_succ])
              refine wpAnyH_take (i := 5) (oi := _) (v := ?_) rfl (by kernel_rfl) (by kernel_rfl) (by kernel_rfl) (fun _ _ _ h => h) (Or.inl ⟨by rfl, ?_⟩) (by assumption) ?_
              rotate_left
              · (first | (intro v hSw; (try dsimp only at hSw); go_simp; done) | (intro v hSw; (try dsimp only at hSw); go_simp; with_reducible rfl))
              (try simp only [List.getElem_toArray, List.getElem_cons_succ, List.getElem_cons_zero, Act.put, List.setIfInBounds_toArray, List.set_cons_zero, List.set_cons_succ])
              refine wpAnyH_ready (rs := [3]) (by kernel_rfl) (by simp) ?_
              refine AllReadyH.cons (o := _) rfl (fun K hK => ?_) AllReadyH.nil
              go_simp
              (refine (HWI.out _ K0.wl.own).mono ?_)
              rintro e v3 ⟨rfl, h3⟩
              have K4 := K0.later h3
              have hb3 := hbd.trans (h3.mono hbd.size)
              clear K0 hHeld h3
              clear hbd
              refine hK.out _ _ ?_ (fun hHeld => ?_)
              · ((try dsimp only); exact HKP.out _ K4)
              clear hK K
              (try simp only [List.getElem_toArray, List.getElem_cons_succ, List.getElem_cons_zero, Act.put, List.setIfInBounds_toArray, List.set_cons_zero, List.set_cons_succ])
              refine wpAnyH_take (i := 4) (oi := _) (v := ?_) rfl (by kernel_rfl) (by kernel_rfl) (by kernel_rfl) (fun _ _ _ h => h) (Or.inl ⟨by rfl, ?_⟩) (by assumption) ?_
              rotate_left
              · (first | (intro v hSw; (try dsimp only at hSw); go_simp; done) | (intro v hSw; (try dsimp only at hSw); go_simp; with_reducible rfl))
              (try simp only [List.getElem_toArray, List.getElem_cons_succ, List.getElem_cons_zero, Act.put, List.setIfInBounds_toArray, List.set_cons_zero, List.set_cons_succ])
              refine wpAnyH_ready (rs := [6]) (by kernel_rfl) (by simp) ?_
              refine AllReadyH.cons (o := _) rfl (fun K hK => ?_) AllReadyH.nil
              go_simp
              (refine (HLN.out _).mono ?_)
              rintro e v6 ⟨rfl, h6⟩
              have K7 := K4.later h6
              have hb6 := hb3.trans (h6.mono hb3.size)
              clear K4 hHeld h6
              clear hb3
              refine hK.out _ _ ?_ (fun hHeld => ?_)
              · ((try dsimp only); exact HKP.out _ K7)
              clear hK K
              (try simp only [List.getElem_toArray, List.getElem_cons_succ, List.getElem_cons_zero, Act.put, List.setIfInBounds_toArray, List.set_cons_zero, List.set_cons_succ])
              refine wpAnyH_take (i := 7) (oi := _) (v := ?_) rfl (by kernel_rfl) (by kernel_rfl) (by kernel_rfl) (fun _ _ _ h => h) (Or.inl ⟨by rfl, ?_⟩) (by assumption) ?_
              rotate_left
              · (first | (intro v hSw; (try dsimp only at hSw); go_simp; done) | (intro v hSw; (try dsimp only at hSw); go_simp; with_reducible rfl))
              (try simp only [List.getElem_toArray, List.getElem_cons_succ, List.getElem_cons_zero, Act.put, List.setIfInBounds_toArray, List.set_cons_zero, List.set_cons_succ])
              refine wpAnyH_take (i := 8) (oi := _) (v := ?_) rfl (by kernel_rfl) (by kernel_rfl) (by kernel_rfl) (fun _ _ _ h => h) (Or.inl ⟨by rfl, ?_⟩) (by assumption) ?_
              rotate_left
              · (first | (intro v hSw; (try dsimp only at hSw); go_simp; done) | (intro v hSw; (try dsimp only at hSw); go_simp; with_reducible rfl))
              (try simp only [List.getElem_toArray, List.getElem_cons_succ, List.getElem_cons_zero, Act.put, List.setIfInBounds_toArray, List.set_cons_zero, List.set_cons_succ])
              refine wpAnyH_take (i := 9) (oi := _) (v := ?_) rfl (by kernel_rfl) (by kernel_rfl) (by kernel_rfl) (fun _ _ _ h => h) (Or.inl ⟨by rfl, ?_⟩) (by assumption) ?_
              rotate_left
              · (first | (intro v hSw; (try dsimp only at hSw); go_simp; done) | (intro v hSw; (try dsimp only at hSw); go_simp; with_reducible rfl))
              (try simp only [List.getElem_toArray, List.getElem_cons_succ, List.getElem_cons_zero, Act.put, List.setIfInBounds_toArray, List.set_cons_zero, List.set_cons_succ])
              refine wpAnyH_take (i := 11) (oi := _) (v := ?_) rfl (by kernel_rfl) (by kernel_rfl) (by kernel_rfl) (fun _ _ _ h => h) (Or.inl ⟨by rfl, ?_⟩) (by assumption) ?_
              rotate_left
              · (first | (intro v hSw; (try dsimp only at hSw); go_simp; done) | (intro v hSw; (try dsimp only at hSw); go_simp; with_reducible rfl))
              (try simp only [List.getElem_toArray, List.getElem_cons_succ, List.getElem_cons_zero, Act.put, List.setIfInBounds_toArray, List.set_cons_zero, List.set_cons_succ])
              refine wpAnyH_ready (rs := [10]) (by kernel_rfl) (by simp) ?_
              refine AllReadyH.cons (o := _) rfl (fun K hK => ?_) AllReadyH.nil
              go_simp
              (refine (HBY.out _ K7.wl.all).mono ?_)
              rintro e v10 ⟨rfl, h10⟩
              have K11 := K7.later h10
              have hb10 := hb6.trans (h10.mono hb6.size)
              clear K7 hHeld h10
              clear hb6
              refine hK.out _ _ ?_ (fun hHeld => ?_)
              · ((try dsimp only); exact HKP.out _ K11)
              clear hK K
              (try simp only [List.getElem_toArray, List.getElem_cons_succ, List.getElem_cons_zero, Act.put, List.setIfInBounds_toArray, List.set_cons_zero, List.set_cons_succ])
              refine wpAnyH_ready (rs := [12]) (by kernel_rfl) (by simp) ?_
              refine AllReadyH.cons (o := _) rfl (fun K hK => ?_) AllReadyH.nil
              go_simp
              (refine (HLN.out _).mono ?_)
              rintro e v12 ⟨rfl, h12⟩
              have K13 := K11.later h12
              have hb12 := hb10.trans (h12.mono hb10.size)
              clear K11 hHeld h12
              clear hb10
              refine hK.out _ _ ?_ (fun hHeld => ?_)
              · ((try dsimp only); exact HKP.out _ K13)
              clear hK K
              (try simp only [List.getElem_toArray, List.getElem_cons_succ, List.getElem_cons_zero, Act.put, List.setIfInBounds_toArray, List.set_cons_zero, List.set_cons_succ])
              refine wpAnyH_take (i := 13) (oi := _) (v := ?_) rfl (by kernel_rfl) (by kernel_rfl) (by kernel_rfl) (fun _ _ _ h => h) (Or.inl ⟨by rfl, ?_⟩) (by assumption) ?_
              rotate_left
              · (first | (intro v hSw; (try dsimp only at hSw); go_simp; done) | (intro v hSw; (try dsimp only at hSw); go_simp; with_reducible rfl))
              (try simp only [List.getElem_toArray, List.getElem_cons_succ, List.getElem_cons_zero, Act.put, List.setIfInBounds_toArray, List.set_cons_zero, List.set_cons_succ])
              refine wpAnyH_take (i := 14) (oi := _) (v := ?_) rfl (by kernel_rfl) (by kernel_rfl) (by kernel_rfl) (fun _ _ _ h => h) (Or.inl ⟨by rfl, ?_⟩) (by assumption) ?_
              rotate_left
              · (first | (intro v hSw; (try dsimp only at hSw); go_simp; done) | (intro v hSw; (try dsimp only at hSw); go_simp; with_reducible rfl))
              (try simp only [List.getElem_toArray, List.getElem_cons_succ, List.getElem_cons_zero, Act.put, List.setIfInBounds_toArray, List.set_cons_zero, List.set_cons_succ])
              refine wpAnyH_take (i := 15) (oi := _) (v := ?_) rfl (by kernel_rfl) (by kernel_rfl) (by kernel_rfl) (fun _ _ _ h => h) (Or.inl ⟨by rfl, ?_⟩) (by assumption) ?_
              rotate_left
              · (first | (intro v hSw; (try dsimp only at hSw); go_simp; done) | (intro v hSw; (try dsimp only at hSw); go_simp; with_reducible rfl))
              (try simp only [List.getElem_toArray, List.getElem_cons_succ, List.getElem_cons_zero, Act.put, List.setIfInBounds_toArray, List.set_cons_zero, List.set_cons_succ])
              refine wpAnyH_take (i := 16) (oi := _) (v := ?_) rfl (by kernel_rfl) (by kernel_rfl) (by kernel_rfl) (fun _ _ _ h => h) (Or.inl ⟨by rfl, ?_⟩) (by assumption) ?_
              rotate_left
              · (first | (intro v hSw; (try dsimp only at hSw); go_simp; done) | (intro v hSw; (try dsimp only at hSw); go_simp; with_reducible rfl))
              (try simp only [List.getElem_toArray, List.getElem_cons_succ, List.getElem_cons_zero, Act.put, List.setIfInBounds_toArray, List.set_cons_zero, List.set_cons_succ])
              refine wpAnyH_ready (rs := [17]) (by kernel_rfl) (by simp) ?_
              refine AllReadyH.cons (o := _) rfl (fun K hK => ?_) AllReadyH.nil
              go_simp
              (refine (HLN.out _).mono ?_)
              rintro e v17 ⟨rfl, h17⟩
              have K18 := K13.later h17
              have hb17 := hb12.trans (h17.mono hb12.size)
              clear K13 hHeld h17
              clear hb12
              refine hK.out _ _ ?_ (fun hHeld => ?_)
              · ((try dsimp only); exact HKP.out _ K18)
              clear hK K
              (try simp only [List.getElem_toArray, List.getElem_cons_succ, List.getElem_cons_zero, Act.put, List.setIfInBounds_toArray, List.set_cons_zero, List.set_cons_succ])
              refine wpAnyH_take (i := 18) (oi := _) (v := ?_) rfl (by kernel_rfl) (by kernel_rfl) (by kernel_rfl) (fun _ _ _ h => h) (Or.inl ⟨by rfl, ?_⟩) (by assumption) ?_
              rotate_left
              · (first | (intro v hSw; (try dsimp only at hSw); go_simp; done) | (intro v hSw; (try dsimp only at hSw); go_simp; with_reducible rfl))
              (try simp only [List.getElem_toArray, List.getElem_cons_succ, List.getElem_cons_zero, Act.put, List.setIfInBounds_toArray, List.set_cons_zero, List.set_cons_succ])
              refine wpAnyH_take (i := 19) (oi := _) (v := ?_) rfl (by kernel_rfl) (by kernel_rfl) (by kernel_rfl) (fun _ _ _ h => h) (Or.inl ⟨by rfl, ?_⟩) (by assumption) ?_
              rotate_left
              · (first | (intro v hSw; (try dsimp only at hSw); go_simp; done) | (intro v hSw; (try dsimp only at hSw); go_simp; with_reducible rfl))
              (try simp only [List.getElem_toArray, List.getElem_cons_succ, List.getElem_cons_zero, Act.put, List.setIfInBounds_toArray, List.set_cons_zero, List.set_cons_succ])
              refine wpAnyH_take (i := 20) (oi := _) (v := undef) rfl (by kernel_rfl) (by kernel_rfl) (by kernel_rfl) (fun _ _ _ h => h) (Or.inr ⟨by rfl, rfl⟩) (by assumption) ?_
              (try simp only [List.getElem_toArray, List.getElem_cons_succ, List.getElem_cons_zero, Act.put, List.setIfInBounds_toArray, List.set_cons_zero, List.set_cons_succ])
              refine wpAnyH_take (i := 21) (oi := _) (v := undef) rfl (by kernel_rfl) (by kernel_rfl) (by kernel_rfl) (fun _ _ _ h => h) (Or.inr ⟨by rfl, rfl⟩) (by assumption) ?_
              (try simp only [List.getElem_toArray, List.getElem_cons_succ, List.getElem_cons_zero, Act.put, List.setIfInBounds_toArray, List.set_cons_zero, List.set_cons_succ])
              refine wpAnyH_take (i := 22) (oi := _) (v := undef) rfl (by kernel_rfl) (by kernel_rfl) (by kernel_rfl) (fun _ _ _ h => h) (Or.inr ⟨by rfl, rfl⟩) (by assumption) ?_
              (try simp only [List.getElem_toArray, List.getElem_cons_succ, List.getElem_cons_zero, Act.put, List.setIfInBounds_toArray, List.set_cons_zero, List.set_cons_succ])
              refine wpAnyH_take (i := 23) (oi := _) (v := ?_) rfl (by kernel_rfl) (by kernel_rfl) (by kernel_rfl) (fun _ _ _ h => h) (Or.inl ⟨by rfl, ?_⟩) (by assumption) ?_
              rotate_left
              · (first | (intro v hSw; (try dsimp only at hSw); go_simp; done) | (intro v hSw; (try dsimp only at hSw); go_simp; with_reducible rfl))
              (try simp only [List.getElem_toArray, List.getElem_cons_succ, List.getElem_cons_zero, Act.put, List.setIfInBounds_toArray, List.set_cons_zero, List.set_cons_succ])
              refine wpAnyH_take (i := 24) (oi := _) (v := ?_) rfl (by kernel_rfl) (by kernel_rfl) (by kernel_rfl) (fun _ _ _ h => h) (Or.inl ⟨by rfl, ?_⟩) (by assumption) ?_
              rotate_left
              · (first | (intro v hSw; (try dsimp only at hSw); go_simp; done) | (intro v hSw; (try dsimp only at hSw); go_simp; with_reducible rfl))
              (try simp only [List.getElem_toArray, List.getElem_cons_succ, List.getElem_cons_zero, Act.put, List.setIfInBounds_toArray, List.set_cons_zero, List.set_cons_succ])
              refine wpAnyH_take (i := 25) (oi := _) (v := ?_) rfl (by kernel_rfl) (by kernel_rfl) (by kernel_rfl) (fun _ _ _ h => h) (Or.inl ⟨by rfl, ?_⟩) (by assumption) ?_
              rotate_left
              · (first | (intro v hSw; (try dsimp only at hSw); go_simp; done) | (intro v hSw; (try dsimp only at hSw); go_simp; with_reducible rfl))
              (try simp only [List.getElem_toArray, List.getElem_cons_succ, List.getElem_cons_zero, Act.put, List.setIfInBounds_toArray, List.set_cons_zero, List.set_cons_succ])
              refine wpAnyH_ready (rs := [26]) (by kernel_rfl) (by simp) ?_
              refine AllReadyH.cons (o := _) rfl (fun K hK => ?_) AllReadyH.nil
              go_simp
              (refine (known_any _).mono ?_)
              rintro e v26 ⟨rfl, h26⟩
              have K27 := K18.later h26
              have hb26 := hb17.trans (h26.mono hb17.size)
              clear K18 hHeld h26
              clear hb17
              have fr : v26.frozen? ⟨br, 0, none⟩ = false := fofr K27.wl.hr 0
              have cr := cofr K27.wl.hr 0 _ rfl
              refine hK.out _ _ ?_ (fun hHeld => ?_)
              · ((try dsimp only); exact HKP.out _ K27)
              clear hK K
              (try simp only [List.getElem_toArray, List.getElem_cons_succ, List.getElem_cons_zero, Act.put, List.setIfInBounds_toArray, List.set_cons_zero, List.set_cons_succ])
              refine wpAnyH_take (i := 27) (oi := _) (v := ?_) rfl (by kernel_rfl) (by kernel_rfl) (by kernel_rfl) (fun _ _ _ h => h) (Or.inl ⟨by rfl, ?_⟩) (by assumption) ?_
              rotate_left
              · (first | (intro v hSw; (try dsimp only at hSw); go_simp; done) | (intro v hSw; (try dsimp only at hSw); go_simp; with_reducible rfl))
              (try simp only [List.getElem_toArray, List.getElem_cons_succ, List.getElem_cons_zero, Act.put, List.setIfInBounds_toArray, List.set_cons_zero, List.set_cons_succ])
              refine wpAnyH_ready (rs := [28]) (by kernel_rfl) (by simp) ?_
              refine AllReadyH.cons (o := _) rfl (fun K hK => ?_) AllReadyH.nil
              go_simp
              refine hK.out _ _ ?_ (fun hHeld => ?_)
              · ((try dsimp only); exact HKS.out _ _ K27)
              clear hK K
              (try simp only [List.getElem_toArray, List.getElem_cons_succ, List.getElem_cons_zero, Act.put, List.setIfInBounds_toArray, List.set_cons_zero, List.set_cons_succ])
              refine wpAnyH_done (by kernel_rfl) ?_ _
              refine OnlyN.normal ?_
              obtain ⟨f1, f2, f3, f4⟩ := HFIN.out _ hb26
              have HF := Lib.hid (And.intro f1 (And.intro f2 f4))
              clear HFIN HKS HKP HBY HLN HWI K27 hHeld f1 f2 f4 fr cr
              gi_wp2
              refine ⟨by simp, .inl ⟨_, _, rfl, run_takeDeferred HF.out.1, ?_⟩⟩
              refine ⟨by simp, .inl ⟨_, _, rfl, run_takeDeferred HF.out.2.1, ?_⟩⟩
              exact ⟨.bool true, by simp [results, Try.results6, go_sem, f3], rfl, HF.out.2.2⟩
            · have HLA := Lib.hid (fun Y (KY : WS w s bs br b5 b6 bn Br Ba l Sr z (ne s) Sc Y) => show Calls Try.prog 15 #[.pointer (some ⟨Ba, 0, none⟩)] Y (fun e w' => e = .returned (.int .i64 1) ∧ Y = w') from by
                have := len_own KY.wl.all
                rw [show ne s = [s] by unfold ne; rw [if_neg h0]] at this
                exact this)
              generalize lenI s = L at *
              have hq : (L == 0) = false := by simp [h0]
              have hq2 : decide (L = 0) = false := by simp [h0]
              gi_wp2
              refine wpIn_region_in (S := (fun w' => w'.cell? ⟨b5, 0, none⟩ = some (.pointer (some ⟨Br, 0, none⟩)) ∧ w'.cell? ⟨b6, 0, none⟩ = some (.pointer (some ⟨Ba, 0, none⟩)) ∧ w'.cell? ⟨bn, 0, none⟩ = some (.int .i64 z) ∧ w'.cell? ⟨bs, 0, none⟩ = some (.int .i64 s.1) ∧ w'.cell? ⟨bs, 1, none⟩ = some (.int .i64 s.2))) hMO ?_
              refine wpAnyH_take (i := 0) (oi := _) (v := ?_) rfl (by kernel_rfl) (by kernel_rfl) (by kernel_rfl) (fun _ _ _ h => h) (Or.inl ⟨by rfl, ?_⟩) (by assumption) ?_
              rotate_left
              · (first | (intro v hSw; (try dsimp only at hSw); go_simp; done) | (intro v hSw; (try dsimp only at hSw); go_simp; with_reducible rfl))
              (try simp only [List.getElem_toArray, List.getElem_cons_succ, List.getElem_cons_zero, Act.put, List.setIfInBounds_toArray, List.set_cons_zero, List.set_cons_succ])
              refine wpAnyH_take (i := 1) (oi := _) (v := ?_) rfl (by kernel_rfl) (by kernel_rfl) (by kernel_rfl) (fun _ _ _ h => h) (Or.inl ⟨by rfl, ?_⟩) (by assumption) ?_
              rotate_left
              · (first | (intro v hSw; (try dsimp only at hSw); go_simp; done) | (intro v hSw; (try dsimp only at hSw); go_simp; with_reducible rfl))
              (try simp only [List.getElem_toArray, List.getElem_cons_succ, List.getElem_cons_zero, Act.put, List.setIfInBounds_toArray, List.set_cons_zero, List.set_cons_succ])
              refine wpAnyH_take (i := 2) (oi := _) (v := ?_) rfl (by kernel_rfl) (by kernel_rfl) (by kernel_rfl) (fun _ _ _ h => h) (Or.inl ⟨by rfl, ?_⟩) (by assumption) ?_
              rotate_left
              · (first | (intro v hSw; (try dsimp only at hSw); go_simp; done) | (intro v hSw; (try dsimp only at hSw); go_simp; with_reducible rfl))
              (try simp only [List.getElem_toArray, List.getElem_cons_succ, List.getElem_cons_zero, Act.put, List.setIfInBounds_toArray, List.set_cons_zero, List.set_cons_succ])
              refine wpAnyH_take (i := 5) (oi := _) (v := ?_) rfl (by kernel_rfl) (by kernel_rfl) (by kernel_rfl) (fun _ _ _ h => h) (Or.inl ⟨by rfl, ?_⟩) (by assumption) ?_
              rotate_left
              · (first | (intro v hSw; (try dsimp only at hSw); go_simp; done) | (intro v hSw; (try dsimp only at hSw); go_simp; with_reducible rfl))
              (try simp only [List.getElem_toArray, List.getElem_cons_succ, List.getElem_cons_zero, Act.put, List.setIfInBounds_toArray, List.set_cons_zero, List.set_cons_succ])
              refine wpAnyH_ready (rs := [3]) (by kernel_rfl) (by simp) ?_
              refine AllReadyH.cons (o := _) rfl (fun K hK => ?_) AllReadyH.nil
              go_simp
              (refine (HWI.out _ K0.wl.own).mono ?_)
              rintro e v3 ⟨rfl, h3⟩
              have K4 := K0.later h3
              have hb3 := hbd.trans (h3.mono hbd.size)
              clear K0 hHeld h3
              clear hbd
              refine hK.out _ _ ?_ (fun hHeld => ?_)
              · ((try dsimp only); exact HKP.out _ K4)
              clear hK K
              (try simp only [List.getElem_toArray, List.getElem_cons_succ, List.getElem_cons_zero, Act.put, List.setIfInBounds_toArray, List.set_cons_zero, List.set_cons_succ])
              refine wpAnyH_take (i := 4) (oi := _) (v := ?_) rfl (by kernel_rfl) (by kernel_rfl) (by kernel_rfl) (fun _ _ _ h => h) (Or.inl ⟨by rfl, ?_⟩) (by assumption) ?_
              rotate_left
              · (first | (intro v hSw; (try dsimp only at hSw); go_simp; done) | (intro v hSw; (try dsimp only at hSw); go_simp; with_reducible rfl))
              (try simp only [List.getElem_toArray, List.getElem_cons_succ, List.getElem_cons_zero, Act.put, List.setIfInBounds_toArray, List.set_cons_zero, List.set_cons_succ])
              refine wpAnyH_ready (rs := [6]) (by kernel_rfl) (by simp) ?_
              refine AllReadyH.cons (o := _) rfl (fun K hK => ?_) AllReadyH.nil
              go_simp
              (refine (HLN.out _).mono ?_)
              rintro e v6 ⟨rfl, h6⟩
              have K7 := K4.later h6
              have hb6 := hb3.trans (h6.mono hb3.size)
              clear K4 hHeld h6
              clear hb3
              refine hK.out _ _ ?_ (fun hHeld => ?_)
              · ((try dsimp only); exact HKP.out _ K7)
              clear hK K
              (try simp only [List.getElem_toArray, List.getElem_cons_succ, List.getElem_cons_zero, Act.put, List.setIfInBounds_toArray, List.set_cons_zero, List.set_cons_succ])
              refine wpAnyH_take (i := 7) (oi := _) (v := ?_) rfl (by kernel_rfl) (by kernel_rfl) (by kernel_rfl) (fun _ _ _ h => h) (Or.inl ⟨by rfl, ?_⟩) (by assumption) ?_
              rotate_left
              · (first | (intro v hSw; (try dsimp only at hSw); go_simp; done) | (intro v hSw; (try dsimp only at hSw); go_simp; with_reducible rfl))
              (try simp only [List.getElem_toArray, List.getElem_cons_succ, List.getElem_cons_zero, Act.put, List.setIfInBounds_toArray, List.set_cons_zero, List.set_cons_succ])
              refine wpAnyH_take (i := 8) (oi := _) (v := ?_) rfl (by kernel_rfl) (by kernel_rfl) (by kernel_rfl) (fun _ _ _ h => h) (Or.inl ⟨by rfl, ?_⟩) (by assumption) ?_
              rotate_left
              · (first | (intro v hSw; (try dsimp only at hSw); go_simp; done) | (intro v hSw; (try dsimp only at hSw); go_simp; with_reducible rfl))
              (try simp only [List.getElem_toArray, List.getElem_cons_succ, List.getElem_cons_zero, Act.put, List.setIfInBounds_toArray, List.set_cons_zero, List.set_cons_succ])
              refine wpAnyH_take (i := 9) (oi := _) (v := ?_) rfl (by kernel_rfl) (by kernel_rfl) (by kernel_rfl) (fun _ _ _ h => h) (Or.inl ⟨by rfl, ?_⟩) (by assumption) ?_
              rotate_left
              · (first | (intro v hSw; (try dsimp only at hSw); go_simp; done) | (intro v hSw; (try dsimp only at hSw); go_simp; with_reducible rfl))
              (try simp only [List.getElem_toArray, List.getElem_cons_succ, List.getElem_cons_zero, Act.put, List.setIfInBounds_toArray, List.set_cons_zero, List.set_cons_succ])
              refine wpAnyH_take (i := 11) (oi := _) (v := ?_) rfl (by kernel_rfl) (by kernel_rfl) (by kernel_rfl) (fun _ _ _ h => h) (Or.inl ⟨by rfl, ?_⟩) (by assumption) ?_
              rotate_left
              · (first | (intro v hSw; (try dsimp only at hSw); go_simp; done) | (intro v hSw; (try dsimp only at hSw); go_simp; with_reducible rfl))
              (try simp only [List.getElem_toArray, List.getElem_cons_succ, List.getElem_cons_zero, Act.put, List.setIfInBounds_toArray, List.set_cons_zero, List.set_cons_succ])
              refine wpAnyH_ready (rs := [10]) (by kernel_rfl) (by simp) ?_
              refine AllReadyH.cons (o := _) rfl (fun K hK => ?_) AllReadyH.nil
              go_simp
              (refine (HBY.out _ K7.wl.all).mono ?_)
              rintro e v10 ⟨rfl, h10⟩
              have K11 := K7.later h10
              have hb10 := hb6.trans (h10.mono hb6.size)
              clear K7 hHeld h10
              clear hb6
              refine hK.out _ _ ?_ (fun hHeld => ?_)
              · ((try dsimp only); exact HKP.out _ K11)
              clear hK K
              (try simp only [List.getElem_toArray, List.getElem_cons_succ, List.getElem_cons_zero, Act.put, List.setIfInBounds_toArray, List.set_cons_zero, List.set_cons_succ])
              refine wpAnyH_ready (rs := [12]) (by kernel_rfl) (by simp) ?_
              refine AllReadyH.cons (o := _) rfl (fun K hK => ?_) AllReadyH.nil
              go_simp
              (refine (HLN.out _).mono ?_)
              rintro e v12 ⟨rfl, h12⟩
              have K13 := K11.later h12
              have hb12 := hb10.trans (h12.mono hb10.size)
              clear K11 hHeld h12
              clear hb10
              refine hK.out _ _ ?_ (fun hHeld => ?_)
              · ((try dsimp only); exact HKP.out _ K13)
              clear hK K
              (try simp only [List.getElem_toArray, List.getElem_cons_succ, List.getElem_cons_zero, Act.put, List.setIfInBounds_toArray, List.set_cons_zero, List.set_cons_succ])
              refine wpAnyH_take (i := 13) (oi := _) (v := ?_) rfl (by kernel_rfl) (by kernel_rfl) (by kernel_rfl) (fun _ _ _ h => h) (Or.inl ⟨by rfl, ?_⟩) (by assumption) ?_
              rotate_left
              · (first | (intro v hSw; (try dsimp only at hSw); go_simp; done) | (intro v hSw; (try dsimp only at hSw); go_simp; with_reducible rfl))
              (try simp only [List.getElem_toArray, List.getElem_cons_succ, List.getElem_cons_zero, Act.put, List.setIfInBounds_toArray, List.set_cons_zero, List.set_cons_succ])
              refine wpAnyH_take (i := 14) (oi := _) (v := ?_) rfl (by kernel_rfl) (by kernel_rfl) (by kernel_rfl) (fun _ _ _ h => h) (Or.inl ⟨by rfl, ?_⟩) (by assumption) ?_
              rotate_left
              · (first | (intro v hSw; (try dsimp only at hSw); go_simp; done) | (intro v hSw; (try dsimp only at hSw); go_simp; with_reducible rfl))
              (try simp only [List.getElem_toArray, List.getElem_cons_succ, List.getElem_cons_zero, Act.put, List.setIfInBounds_toArray, List.set_cons_zero, List.set_cons_succ])
              refine wpAnyH_take (i := 15) (oi := _) (v := ?_) rfl (by kernel_rfl) (by kernel_rfl) (by kernel_rfl) (fun _ _ _ h => h) (Or.inl ⟨by rfl, ?_⟩) (by assumption) ?_
              rotate_left
              · (first | (intro v hSw; (try dsimp only at hSw); go_simp; done) | (intro v hSw; (try dsimp only at hSw); go_simp; with_reducible rfl))
              (try simp only [List.getElem_toArray, List.getElem_cons_succ, List.getElem_cons_zero, Act.put, List.setIfInBounds_toArray, List.set_cons_zero, List.set_cons_succ])
              refine wpAnyH_take (i := 16) (oi := _) (v := ?_) rfl (by kernel_rfl) (by kernel_rfl) (by kernel_rfl) (fun _ _ _ h => h) (Or.inl ⟨by rfl, ?_⟩) (by assumption) ?_
              rotate_left
              · (first | (intro v hSw; (try dsimp only at hSw); go_simp; done) | (intro v hSw; (try dsimp only at hSw); go_simp; with_reducible rfl))
              (try simp only [List.getElem_toArray, List.getElem_cons_succ, List.getElem_cons_zero, Act.put, List.setIfInBounds_toArray, List.set_cons_zero, List.set_cons_succ])
              refine wpAnyH_ready (rs := [17]) (by kernel_rfl) (by simp) ?_
              refine AllReadyH.cons (o := _) rfl (fun K hK => ?_) AllReadyH.nil
              go_simp
              (refine (HLN.out _).mono ?_)
              rintro e v17 ⟨rfl, h17⟩
              have K18 := K13.later h17
              have hb17 := hb12.trans (h17.mono hb12.size)
              clear K13 hHeld h17
              clear hb12
              refine hK.out _ _ ?_ (fun hHeld => ?_)
              · ((try dsimp only); exact HKP.out _ K18)
              clear hK K
              (try simp only [List.getElem_toArray, List.getElem_cons_succ, List.getElem_cons_zero, Act.put, List.setIfInBounds_toArray, List.set_cons_zero, List.set_cons_succ])
              refine wpAnyH_take (i := 18) (oi := _) (v := ?_) rfl (by kernel_rfl) (by kernel_rfl) (by kernel_rfl) (fun _ _ _ h => h) (Or.inl ⟨by rfl, ?_⟩) (by assumption) ?_
              rotate_left
              · (first | (intro v hSw; (try dsimp only at hSw); go_simp; done) | (intro v hSw; (try dsimp only at hSw); go_simp; with_reducible rfl))
              (try simp only [List.getElem_toArray, List.getElem_cons_succ, List.getElem_cons_zero, Act.put, List.setIfInBounds_toArray, List.set_cons_zero, List.set_cons_succ])
              refine wpAnyH_take (i := 19) (oi := _) (v := ?_) rfl (by kernel_rfl) (by kernel_rfl) (by kernel_rfl) (fun _ _ _ h => h) (Or.inl ⟨by rfl, ?_⟩) (by assumption) ?_
              rotate_left
              · (first | (intro v hSw; (try dsimp only at hSw); go_simp; done) | (intro v hSw; (try dsimp only at hSw); go_simp; with_reducible rfl))
              (try simp only [List.getElem_toArray, List.getElem_cons_succ, List.getElem_cons_zero, Act.put, List.setIfInBounds_toArray, List.set_cons_zero, List.set_cons_succ])
              refine wpAnyH_take (i := 20) (oi := _) (v := ?_) rfl (by kernel_rfl) (by kernel_rfl) (by kernel_rfl) (fun _ _ _ h => h) (Or.inl ⟨by rfl, ?_⟩) (by assumption) ?_
              rotate_left
              · (first | (intro v hSw; (try dsimp only at hSw); go_simp; done) | (intro v hSw; (try dsimp only at hSw); go_simp; with_reducible rfl))
              (try simp only [List.getElem_toArray, List.getElem_cons_succ, List.getElem_cons_zero, Act.put, List.setIfInBounds_toArray, List.set_cons_zero, List.set_cons_succ])
              refine wpAnyH_ready (rs := [21]) (by kernel_rfl) (by simp) ?_
              refine AllReadyH.cons (o := _) rfl (fun K hK => ?_) AllReadyH.nil
              go_simp
              (refine (HLA.out _ K18).mono ?_)
              rintro e v' ⟨rfl, rfl⟩
              refine hK.out _ _ ?_ (fun hHeld => ?_)
              · ((try dsimp only); exact HKP.out _ K18)
              clear hK K
              (try simp only [List.getElem_toArray, List.getElem_cons_succ, List.getElem_cons_zero, Act.put, List.setIfInBounds_toArray, List.set_cons_zero, List.set_cons_succ])
              refine wpAnyH_take (i := 22) (oi := _) (v := ?_) rfl (by kernel_rfl) (by kernel_rfl) (by kernel_rfl) (fun _ _ _ h => h) (Or.inl ⟨by rfl, ?_⟩) (by assumption) ?_
              rotate_left
              · (first | (intro v hSw; (try dsimp only at hSw); go_simp; done) | (intro v hSw; (try dsimp only at hSw); go_simp; with_reducible rfl))
              (try simp only [List.getElem_toArray, List.getElem_cons_succ, List.getElem_cons_zero, Act.put, List.setIfInBounds_toArray, List.set_cons_zero, List.set_cons_succ])
              refine wpAnyH_take (i := 23) (oi := _) (v := ?_) rfl (by kernel_rfl) (by kernel_rfl) (by kernel_rfl) (fun _ _ _ h => h) (Or.inl ⟨by rfl, ?_⟩) (by assumption) ?_
              rotate_left
              · (first | (intro v hSw; (try dsimp only at hSw); go_simp; done) | (intro v hSw; (try dsimp only at hSw); go_simp; with_reducible rfl))
              (try simp only [List.getElem_toArray, List.getElem_cons_succ, List.getElem_cons_zero, Act.put, List.setIfInBounds_toArray, List.set_cons_zero, List.set_cons_succ])
              refine wpAnyH_take (i := 24) (oi := _) (v := ?_) rfl (by kernel_rfl) (by kernel_rfl) (by kernel_rfl) (fun _ _ _ h => h) (Or.inl ⟨by rfl, ?_⟩) (by assumption) ?_
              rotate_left
              · (first | (intro v hSw; (try dsimp only at hSw); go_simp; done) | (intro v hSw; (try dsimp only at hSw); go_simp; with_reducible rfl))
              (try simp only [List.getElem_toArray, List.getElem_cons_succ, List.getElem_cons_zero, Act.put, List.setIfInBounds_toArray, List.set_cons_zero, List.set_cons_succ])
              refine wpAnyH_take (i := 25) (oi := _) (v := ?_) rfl (by kernel_rfl) (by kernel_rfl) (by kernel_rfl) (fun _ _ _ h => h) (Or.inl ⟨by rfl, ?_⟩) (by assumption) ?_
              rotate_left
              · (first | (intro v hSw; (try dsimp only at hSw); go_simp; done) | (intro v hSw; (try dsimp only at hSw); go_simp; with_reducible rfl))
              (try simp only [List.getElem_toArray, List.getElem_cons_succ, List.getElem_cons_zero, Act.put, List.setIfInBounds_toArray, List.set_cons_zero, List.set_cons_succ])
              refine wpAnyH_ready (rs := [26]) (by kernel_rfl) (by simp) ?_
              refine AllReadyH.cons (o := _) rfl (fun K hK => ?_) AllReadyH.nil
              go_simp
              (refine (known_any _).mono ?_)
              rintro e v26 ⟨rfl, h26⟩
              have K27 := K18.later h26
              have hb26 := hb17.trans (h26.mono hb17.size)
              clear K18 hHeld h26
              clear hb17
              have fr : v26.frozen? ⟨br, 0, none⟩ = false := fofr K27.wl.hr 0
              have cr := cofr K27.wl.hr 0 _ rfl
              refine hK.out _ _ ?_ (fun hHeld => ?_)
              · ((try dsimp only); exact HKP.out _ K27)
              clear hK K
              (try simp only [List.getElem_toArray, List.getElem_cons_succ, List.getElem_cons_zero, Act.put, List.setIfInBounds_toArray, List.set_cons_zero, List.set_cons_succ])
              refine wpAnyH_take (i := 27) (oi := _) (v := ?_) rfl (by kernel_rfl) (by kernel_rfl) (by kernel_rfl) (fun _ _ _ h => h) (Or.inl ⟨by rfl, ?_⟩) (by assumption) ?_
              rotate_left
              · (first | (intro v hSw; (try dsimp only at hSw); go_simp; done) | (intro v hSw; (try dsimp only at hSw); go_simp; with_reducible rfl))
              (try simp only [List.getElem_toArray, List.getElem_cons_succ, List.getElem_cons_zero, Act.put, List.setIfInBounds_toArray, List.set_cons_zero, List.set_cons_succ])
              refine wpAnyH_ready (rs := [28]) (by kernel_rfl) (by simp) ?_
              refine AllReadyH.cons (o := _) rfl (fun K hK => ?_) AllReadyH.nil
              go_simp
              refine hK.out _ _ ?_ (fun hHeld => ?_)
              · ((try dsimp only); exact HKS.out _ _ K27)
              clear hK K
              (try simp only [List.getElem_toArray, List.getElem_cons_succ, List.getElem_cons_zero, Act.put, List.setIfInBounds_toArray, List.set_cons_zero, List.set_cons_succ])
              refine wpAnyH_done (by kernel_rfl) ?_ _
              refine OnlyN.normal ?_
              obtain ⟨f1, f2, f3, f4⟩ := HFIN.out _ hb26
              have HF := Lib.hid (And.intro f1 (And.intro f2 f4))
              clear HFIN HKS HKP HBY HLN HWI K27 hHeld f1 f2 f4 fr cr
              gi_wp2
              refine ⟨by simp, .inl ⟨_, _, rfl, run_takeDeferred HF.out.1, ?_⟩⟩
              refine ⟨by simp, .inl ⟨_, _, rfl, run_takeDeferred HF.out.2.1, ?_⟩⟩
              exact ⟨.bool true, by simp [results, Try.results6, go_sem, f3], rfl, HF.out.2.2⟩
end Go.Proofs.Ytdadcbelbkhgoaa.rn
