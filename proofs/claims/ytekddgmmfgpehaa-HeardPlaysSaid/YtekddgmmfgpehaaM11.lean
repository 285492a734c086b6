/-
  Several texts in one: HrdOw HrdPa HrdPd HrdPb
-/
import Derived.Test.YtekddgmmfgpehaaM10
/-!   Heard: two of one's own; a text's pieces.
-/
namespace Go.Proofs.Ytekddgmmfgpehaa.hd
open Go.RowKit Go.Shelf aid mem rng sp rn
attribute [local go_sem ↓] Go.wp_at_zero Go.wp_at_succ
set_option linter.unusedVariables false
set_option linter.unusedSimpArgs false

/-- two of one's own, apart -/
structure K2 (w : World) (A : Nat) (m : Hb) (x : Hd) (B : Nat) (n : Hb) (y : Hd) (W : World) : Prop where
  a : KS w A m x W
  b : KS w B n y W
  dis : ∀ c ∈ A :: parts m, c ∉ B :: parts n
theorem K2.later {w W W' : World} {A B : Nat} {m n : Hb} {x y : Hd} (h : K2 w A m x B n y W) (hb : Below W.heap.size W W') : K2 w A m x B n y W' := ⟨h.a.later hb, h.b.later hb, h.dis⟩
theorem K2.symm {w W : World} {A B : Nat} {m n : Hb} {x y : Hd} (h : K2 w A m x B n y W) : K2 w B n y A m x W := ⟨h.b, h.a, fun c hc e => h.dis c e hc⟩
def Far4 (W w' : World) : Prop := ∀ (b : Nat) (cs : Array Value) (T : TypeId), W.heap[b]? = some (.cells cs T (0, 0)) → far4 T = true → w'.heap[b]? = some (.cells cs T (0, 0))
theorem K2.took {w W W' : World} {A B : Nat} {m n : Hb} {x x' y : Hd} {v : Value} {e : Ending} (h : K2 w A m x B n y W) (r : RetK v A m x' W e W') : e = .returned v ∧ ∃ m', K2 w A m' x' B n y W' ∧ Far4 W W' := by
  obtain ⟨r1, m', r2, r3, r4⟩ := r
  have hz := h.a.below.size
  have h0 : ∀ c ∈ A :: parts m', c ∈ A :: parts m ∨ W.heap.size ≤ c := fun c hc => by
    simp only [List.mem_cons] at hc
    rcases hc with rfl | hc
    · exact .inl (by simp)
    · rcases r4 c (by simpa using hc) with q | q
      · exact .inl (by simp only [List.mem_cons]; exact .inr (by simpa using q))
      · exact .inr q
  refine ⟨r1, m', ⟨⟨r2, h.a.below.trans (r3.below h.a.own hz), fun c hc => ?_⟩, ⟨h.b.h.keep r3 (fun c hc e => h.dis c e hc), h.b.below.trans (r3.below h.a.own hz), h.b.own⟩, fun c hc e => ?_⟩, h.a.far r3⟩
  · rcases h0 c hc with q | q
    · exact h.a.own c q
    · omega
  · rcases h0 c hc with q | q
    · exact h.dis c q e
    · have := h.b.h.lt c e; omega
abbrev cuO (q : hc.OpV) : Obj := .cells #[.int .u16 q.pos, .int .u16 q.n] 51
/-- beside the two: two pieces in boxes -/
structure CB (w : World) (A : Nat) (m : Hb) (x : Hd) (B : Nat) (n : Hb) (y : Hd) (b1 b2 : Nat) (q1 q2 : hc.OpV) (W : World) : Prop where
  k : K2 w A m x B n y W
  x1 : W.heap[b1]? = some (cuO q1)
  x2 : W.heap[b2]? = some (cuO q2)
theorem CB.took {w W W' : World} {A B b1 b2 : Nat} {m n : Hb} {x x' y : Hd} {q1 q2 : hc.OpV} {v : Value} {e : Ending} (h : CB w A m x B n y b1 b2 q1 q2 W) (r : RetK v A m x' W e W') : e = .returned v ∧ ∃ m', CB w A m' x' B n y b1 b2 q1 q2 W' := by
  obtain ⟨r1, m', k, hf⟩ := h.k.took r
  exact ⟨r1, m', k, hf _ _ _ h.x1 (by decide), hf _ _ _ h.x2 (by decide)⟩
theorem CB.tookB {w W W' : World} {A B b1 b2 : Nat} {m n : Hb} {x y y' : Hd} {q1 q2 : hc.OpV} {v : Value} {e : Ending} (h : CB w A m x B n y b1 b2 q1 q2 W) (r : RetK v B n y' W e W') : e = .returned v ∧ ∃ n', CB w A m x B n' y' b1 b2 q1 q2 W' := by
  obtain ⟨r1, m', k, hf⟩ := h.k.symm.took r
  exact ⟨r1, m', k.symm, hf _ _ _ h.x1 (by decide), hf _ _ _ h.x2 (by decide)⟩
theorem two_cuts {w W : World} {A B : Nat} {m n : Hb} {x y : Hd} (h : K2 w A m x B n y W) (q1 q2 : hc.OpV) :
    CB w A m x B n y W.heap.size (W.heap.size + 1) q1 q2 ((W.alloc (cuO q1)).alloc (cuO q2)).drew ∧ CB w A m x B n y (W.heap.size + 1) W.heap.size q1 q2 ((W.alloc (cuO q2)).alloc (cuO q1)).drew := by
  have key : ∀ (u v : hc.OpV), Below W.heap.size W ((W.alloc (cuO u)).alloc (cuO v)).drew ∧ ((W.alloc (cuO u)).alloc (cuO v)).drew.heap[W.heap.size]? = some (cuO u) ∧ ((W.alloc (cuO u)).alloc (cuO v)).drew.heap[W.heap.size + 1]? = some (cuO v) := fun u v => by
    have b1 := bal (w := W) (cuO u)
    have x1 := heap_alloc_new W (cuO u)
    have hz : (W.alloc (cuO u)).heap.size = W.heap.size + 1 := by simp
    have b2 := (bal (w := W.alloc (cuO u)) (cuO v)).drew
    have y2 := heap_alloc_new (W.alloc (cuO u)) (cuO v)
    rw [hz] at y2
    exact ⟨b1.trans (b2.mono b1.size), (b2.block _ (lt_of_block x1)).trans x1, y2⟩
  obtain ⟨k1, k2, k3⟩ := key q1 q2
  obtain ⟨l1, l2, l3⟩ := key q2 q1
  exact ⟨⟨h.later k1, k2, k3⟩, ⟨h.later l1, l3, l2⟩⟩
theorem cu_c {W : World} {b : Nat} {q : hc.OpV} (h : W.heap[b]? = some (cuO q)) : W.cell? ⟨b, 0, none⟩ = some (.int .u16 q.pos) ∧ W.cell? ⟨b, 1, none⟩ = some (.int .u16 q.n) := ⟨cofr h 0 _ rfl, cofr h 1 _ rfl⟩
theorem piece_sl {w : World} {a : Option Addr} {n cap : Nat} {l : List Int} (h : SlA .u8 w a n cap l) (j k : Nat) (hj : j ≤ k) (hk : k ≤ n) : SlA .u8 w (if cap = j then a else a.map (·.add j)) (k - j) (cap - j) ((l.take k).drop j) := (h.take k hk).fromK j hj
/-- a piece of the text for one of the two -/
theorem take_a {w W : World} {A B b1 b2 : Nat} {m n : Hb} {x y : Hd} {q1 q2 q : hc.OpV} {first : Int} {t : List Int} {l : List hc.OpV} (h : CB w A m x B n y b1 b2 q1 q2 W) (hf : 0 ≤ first ∧ first ≤ 4294967295) (ht : t.length ≤ 2000) (o : PcO first t l x) (hl : l.length ≤ 60) (hc : cf t q < t.length) {a : Option Addr} {tn cap : Nat} (hp : SlA .u8 w a tn cap t) :
    Calls Try.prog 9 #[.pointer (some ⟨A, 0, none⟩), .int .u32 ((first + (cf t q : Int)) % 4294967296), .slice (if cap = cf t q then a else a.map (·.add (cf t q))) (ce t q - cf t q) (cap - cf t q)] W fun e w' => ∃ v m', e = .returned v ∧ CB w A m' (stp first t x q) B n y b1 b2 q1 q2 w' := by
  have hn := o.nxb
  have hle := o.len
  have hcf := cf_le t q
  have hpl := hp.len
  have hs := piece_sl hp (cf t q) (ce t q) hcf.1 (by omega)
  refine (take_any h.k.a.h (by omega) (by omega) ((first + (cf t q : Int)) % 4294967296) (by omega) (hs.later h.k.a.below) (fun z hz h0 e => ?_)).mono fun e w' r => ?_
  · have h1 := h.k.a.own _ e
    have := sla_old hs z hz h0
    omega
  · obtain ⟨r1, m', r2⟩ := h.took r
    rw [stp_takes hc]
    exact ⟨_, m', r1, r2⟩
theorem take_b {w W : World} {A B b1 b2 : Nat} {m n : Hb} {x y : Hd} {q1 q2 q : hc.OpV} {first : Int} {t : List Int} {l : List hc.OpV} (h : CB w A m x B n y b1 b2 q1 q2 W) (hf : 0 ≤ first ∧ first ≤ 4294967295) (ht : t.length ≤ 2000) (o : PcO first t l y) (hl : l.length ≤ 60) (hc : cf t q < t.length) {a : Option Addr} {tn cap : Nat} (hp : SlA .u8 w a tn cap t) :
    Calls Try.prog 9 #[.pointer (some ⟨B, 0, none⟩), .int .u32 ((first + (cf t q : Int)) % 4294967296), .slice (if cap = cf t q then a else a.map (·.add (cf t q))) (ce t q - cf t q) (cap - cf t q)] W fun e w' => ∃ v n', e = .returned v ∧ CB w A m x B n' (stp first t y q) b1 b2 q1 q2 w' := by
  refine (take_a (q1 := q1) (q2 := q2) ⟨h.k.symm, h.x1, h.x2⟩ hf ht o hl hc hp).mono fun e w' r => ?_
  obtain ⟨v, m', r1, r2⟩ := r
  exact ⟨v, m', r1, r2.k.symm, r2.x1, r2.x2⟩
theorem take_snocO {l : List hc.OpV} {k : Nat} (hk : k < l.length) : l.take (k + 1) = l.take k ++ [l.getD k default] := by
  rw [List.take_succ_eq_append_getElem hk]
  simp [List.getD, hk]
theorem rev_getO {l : List hc.OpV} {k n : Nat} (hn : l.length = n) (hk : k < n) : l.reverse.getD k default = l.getD (n - 1 - k) default := by
  subst hn
  rw [List.getD_eq_getElem?_getD, List.getD_eq_getElem?_getD, List.getElem?_reverse hk]
end Go.Proofs.Ytekddgmmfgpehaa.hd
/-!   HeardPlays: one of one's own, and the document's in a box; a segment comes to each.
-/
namespace Go.Proofs.Ytekddgmmfgpehaa.hd
open Go.RowKit Go.Shelf aid mem rng sp rn
set_option linter.unusedVariables false
set_option linter.unusedSimpArgs false

/-- where the document's lists lie -/
structure Ap (B : Nat) (m : Hb) (X : Nat) (q : Rl) (W : World) : Prop where
  l : ∀ y, q.la = some y → 0 < q.ln → y.block ∉ B :: parts m ∧ y.block ≠ X
  b : ∀ y, q.ba = some y → 0 < q.bc → (y.block ∉ B :: parts m ∧ y.block ≠ X) ∧ y.block < W.heap.size
/-- one of one's own, and the document's -/
structure PS (w : World) (B : Nat) (m : Hb) (x : Hd) (X : Nat) (y : Hd) (q : Rl) (b : List Int) (W : World) : Prop where
  s : KS w B m x W
  hx : W.heap[X]? = some (hrO y q)
  hX : w.heap.size ≤ X
  ra : RA W y q b
  rb : RB b y
  oy : Ok y
  ap : Ap B m X q W
section
variable {w W W' : World} {B X : Nat} {m : Hb} {x y : Hd} {q : Rl} {b : List Int}
theorem PS.later (h : PS w B m x X y q b W) (hb : Below W.heap.size W W') : PS w B m x X y q b W' :=
  ⟨h.s.later hb, (hb.block _ (lt_of_block h.hx)).trans h.hx, h.hX, h.ra.later hb, h.rb, h.oy, ⟨h.ap.l, fun z h1 h2 => ⟨(h.ap.b z h1 h2).1, Nat.lt_of_lt_of_le (h.ap.b z h1 h2).2 hb.size⟩⟩⟩
theorem far_hr : far4 34 = true := by decide
/-- a call that may change the one -/
theorem PS.took {x' : Hd} {v : Value} {e : Ending} (h : PS w B m x X y q b W) (r : RetK v B m x' W e W') : e = .returned v ∧ ∃ m', PS w B m' x' X y q b W' ∧ Far4 W W' := by
  obtain ⟨r1, m', r2, r3, r4⟩ := r
  have h0 : ∀ c ∈ B :: parts m', c ∈ B :: parts m ∨ W.heap.size ≤ c := fun c hc => by
    simp only [List.mem_cons] at hc
    rcases hc with rfl | hc
    · exact .inl (by simp)
    · rcases r4 c (by simpa using hc) with q | q
      · exact .inl (by simp only [List.mem_cons]; exact .inr (by simpa using q))
      · exact .inr q
  have hz := h.s.below.size
  have hsz := r3.size
  refine ⟨r1, m', ⟨⟨r2, h.s.below.trans (r3.below h.s.own hz), fun c hc => ?_⟩, h.s.far r3 _ _ _ h.hx far_hr, h.hX, h.ra.keep r3 (fun z h1 h2 => (h.ap.l z h1 h2).1) (fun z h1 h2 => (h.ap.b z h1 h2).1.1), h.rb, h.oy, ⟨fun z h1 h2 => ⟨fun e => ?_, (h.ap.l z h1 h2).2⟩, fun z h1 h2 => ⟨⟨fun e => ?_, (h.ap.b z h1 h2).1.2⟩, ?_⟩⟩⟩, h.s.far r3⟩
  · rcases h0 c hc with q | q
    · exact h.s.own c q
    · omega
  · rcases h0 _ e with q | q
    · exact (h.ap.l z h1 h2).1 q
    · have := h.ra.llt z h1 h2; omega
  · rcases h0 _ e with q | q
    · exact (h.ap.b z h1 h2).1.1 q
    · have := (h.ap.b z h1 h2).2; omega
  · have := (h.ap.b z h1 h2).2; omega
/-- the document's answer -/
theorem PS.rtook {y' : Hd} {t : Td} {er : Int} {e : Ending} (h : PS w B m x X y q b W) (oy' : Ok y') (r : RtP q y' t er W e W') : ∃ q' b', e = .returned (.tuple #[.agg (hrC y' q'), .agg (tdC t), .int .i64 er]) ∧ PS w B m x X y q b W' ∧ RA W' y' q' b' ∧ RB b' y' ∧ Ap B m X q' W' ∧ Below W.heap.size W W' := by
  obtain ⟨q', b', r1, r2, r3, r4, r5, r6⟩ := r
  refine ⟨q', b', r1, h.later r4, r2, r3, ⟨fun z h1 h2 => ?_, fun z h1 h2 => ?_⟩, r4⟩
  · rcases r5 z h1 h2 with ⟨p1, p2⟩ | p
    · exact h.ap.l z p1 p2
    · exact ⟨fun e => by have := h.s.h.lt _ e; omega, fun e => by have := lt_of_block h.hx; omega⟩
  · rcases r6 z h1 h2 with ⟨p1, p2⟩ | ⟨p1, p2⟩
    · exact ⟨(h.ap.b z p1 p2).1, Nat.lt_of_lt_of_le (h.ap.b z p1 p2).2 r4.size⟩
    · exact ⟨⟨fun e => by have := h.s.h.lt _ e; omega, fun e => by have := lt_of_block h.hx; omega⟩, p2⟩
/-- what the document tells is put into the box -/
theorem PS.put {y' : Hd} {q' : Rl} {b' : List Int} (h : PS w B m x X y q b W) (oy' : Ok y') (ra : RA W y' q' b') (rb : RB b' y') (ap : Ap B m X q' W) :
    PS w B m x X y' q' b' (put4 X (.int .u32 y'.first) (.int .i64 (y'.room : Int)) (.slice q'.la q'.ln q'.lc) (.slice q'.ba q'.bn q'.bc) W) ∧ Kept [X] W (put4 X (.int .u32 y'.first) (.int .i64 (y'.room : Int)) (.slice q'.la q'.ln q'.lc) (.slice q'.ba q'.bn q'.bc) W) := by
  have hk : Kept [X] W (put4 X (.int .u32 y'.first) (.int .i64 (y'.room : Int)) (.slice q'.la q'.ln q'.lc) (.slice q'.ba q'.bn q'.bc) W) := ((((Kept.refl [X] W).setCell (.inl (by simp)) _).setCell (.inl (by simp)) _).setCell (.inl (by simp)) _).setCell (.inl (by simp)) _
  have hXp : X ∉ B :: parts m := h.s.h.typ h.hx (by decide) (by decide) (by decide) (by decide)
  have hn : ∀ {cs : Array Value} {T : TypeId} {c : Nat}, W.heap[c]? = some (.cells cs T (0, 0)) → T ≠ 34 → c ∉ [X] := fun hc hT e => by
    simp at e
    subst e
    exact typ_ne hc h.hx hT rfl
  refine ⟨⟨⟨h.s.h.keep hk (fun c hc e => by simp at e; subst e; exact hXp hc), h.s.below.trans (hk.below (fun c hc => by simp at hc; subst hc; exact h.hX) h.s.below.size), h.s.own⟩, ?_, h.hX, ?_, rb, oy', ⟨ap.l, fun z h1 h2 => ⟨(ap.b z h1 h2).1, Nat.lt_of_lt_of_le (ap.b z h1 h2).2 hk.size⟩⟩⟩, hk⟩
  · exact setq (setq (setq (setq h.hx _ rfl) _ rfl) _ rfl) _ rfl
  · exact ra.keep hk (fun z h1 h2 e => (ap.l z h1 h2).2 (by simpa using e)) (fun z h1 h2 e => (ap.b z h1 h2).1.2 (by simpa using e))
/-- a box beside them is written -/
theorem PS.side {W0 : World} {m0 : Hb} {x0 : Hd} {c : Nat} {cs : Array Value} {T : TypeId} (h : PS w B m x X y q b W) (hc : W.heap[c]? = some (.cells cs T (0, 0))) (hT : far4 T = true) (hT2 : T ≠ 34 ∨ c ≠ X) (hcw : w.heap.size ≤ c) (h0 : PS w B m0 x0 X y q b W0) (hW0 : W0.heap.size ≤ c) (hk : Kept [c] W W') : PS w B m x X y q b W' := by
  have hT' := hT
  unfold far4 at hT'
  simp at hT'
  have hcp : c ∉ B :: parts m := h.s.h.typ hc hT'.1.1.1 hT'.1.1.2 hT'.1.2 hT'.2
  have hXc : X ≠ c := fun e => by
    rcases hT2 with q | q
    · exact typ_ne hc h.hx q e.symm
    · exact q e.symm
  refine ⟨⟨h.s.h.keep hk (fun d hd e => by simp at e; subst e; exact hcp hd), h.s.below.trans (hk.below (fun d hd => by simp at hd; subst hd; exact hcw) h.s.below.size), h.s.own⟩, hk.heap (by simpa using hXc) h.hx, h.hX, h.ra.keep hk (fun z h1 h2 e => ?_) (fun z h1 h2 e => ?_), h.rb, h.oy, ⟨h.ap.l, fun z h1 h2 => ⟨(h.ap.b z h1 h2).1, Nat.lt_of_lt_of_le (h.ap.b z h1 h2).2 hk.size⟩⟩⟩
  · have := h0.ra.llt z h1 h2
    simp at e
    omega
  · have := (h0.ap.b z h1 h2).2
    simp at e
    omega
theorem put6_td {c : Nat} (hc : W.heap[c]? = some tdZ) (T : Td) : (put6 c (.int .i64 T.s.1) (.int .i64 T.s.2) (.int .i64 T.fresh) (.bool (decide (0 < lenI T.dup))) (.int .i64 T.dup.1) (.int .i64 T.dup.2) W).heap[c]? = some (tdO T) :=
  setq (setq (setq (setq (setq (setq hc _ rfl) _ rfl) _ rfl) _ rfl) _ rfl) _ rfl
theorem fresh_sum (x : Hd) (num : Int) (p : List Int) : bytesL x.l + (td x num p.length).fresh = bytesL (tk x num p).l := by
  unfold td tk
  by_cases c : (pl x num p.length).1 = 0
  · rw [if_pos c, if_pos c]; show bytesL x.l + (bytesL (refWi x.l _) - bytesL x.l) = bytesL (refWi x.l _); omega
  · rw [if_neg c, if_neg c]; show bytesL x.l + 0 = bytesL x.l; omega
theorem PS.new {w W : World} {B X : Nat} {m : Hb} {first : Int} {r : Nat} (hf : 0 ≤ first ∧ first ≤ 4294967295) (hr : 1 ≤ r ∧ r ≤ 65536) (s : KS w B m ⟨first, r, [], fun _ => 0⟩ W) (hx : W.heap[X]? = some (hrO ⟨first, r, [], fun _ => 0⟩ ⟨none, 0, 0, none, 0, 0⟩)) (hX : w.heap.size ≤ X) : PS w B m ⟨first, r, [], fun _ => 0⟩ X ⟨first, r, [], fun _ => 0⟩ ⟨none, 0, 0, none, 0, 0⟩ [] W := by
  refine ⟨s, hx, hX, ⟨?_, sl_of_row (.inl ⟨rfl, rfl, rfl, rfl⟩)⟩, ⟨fun i hi => (In.nil hi).elim, ?_⟩, ok_new hf hr, ⟨fun z h1 => by simp at h1, fun z h1 => by simp at h1⟩⟩
  · exact ⟨rfl, Nat.le_refl _, by show 0 ≤ maxLen; unfold maxLen; omega, fun _ => rfl, fun h => absurd h (Nat.lt_irrefl 0)⟩
  · have : nx ([] : List Sp) = 0 := nx_nil
    simp [this]
abbrev opO (o : OpV) : Obj := .cells #[.int .u32 o.num, .slice o.b.1 o.b.2.1 o.b.2.2.1] 26
theorem sz_bd {k : Nat} {x : Hd} (h : Sz (33 * k) x) (hk : k ≤ 61) : nx x.l ≤ 1000000000 ∧ x.l.length ≤ 4000 := by
  unfold Sz at h
  omega
theorem sz_step {k : Nat} {x : Hd} (ho : Ok x) (h : Sz (33 * k) x) (hk : k ≤ 61) (num : Int) (p : List Int) : Ok (tk x num p) ∧ Sz (33 * (k + 1)) (tk x num p) := by
  have := tk_ok (num := num) (p := p) ho (by omega) h
  rw [show 33 * (k + 1) = 33 * k + 33 by omega]
  exact this
/-- a segment comes to the one -/
theorem ps_take {w W : World} {B X : Nat} {m : Hb} {x y : Hd} {q : Rl} {b : List Int} (h : PS w B m x X y q b W) (hz : nx x.l ≤ 1000000000 ∧ x.l.length ≤ 4000) {o : OpV} (ho : OpOk w o) :
    Calls Try.prog 9 #[.pointer (some ⟨B, 0, none⟩), .int .u32 o.num, .slice o.b.1 o.b.2.1 o.b.2.2.1] W fun e w' => e = .returned (.tuple #[.agg (tdC (td x o.num o.b.2.2.2.length)), .int .i64 (pl x o.num o.b.2.2.2.length).1]) ∧ ∃ m', PS w B m' (tk x o.num o.b.2.2.2) X y q b w' ∧ Far4 W w' :=
  (take_any h.s.h hz.1 hz.2 o.num ho.1 (ho.2.later h.s.below) (fun z hz' h0 e => by have := h.s.own _ e; have := sla_old ho.2 z hz' h0; omega)).mono fun e w' r => h.took r
/-- and to the document's -/
theorem ps_rtake {w W : World} {B X : Nat} {m : Hb} {x y : Hd} {q : Rl} {b : List Int} (h : PS w B m x X y q b W) (hz : nx y.l ≤ 1000000000 ∧ y.l.length ≤ 4000) {o : OpV} (ho : OpOk w o) :
    Calls Try.prog 10 #[.agg (hrC y q), .int .u32 o.num, .slice o.b.1 o.b.2.1 o.b.2.2.1] W fun e w' => ∃ q' b', e = .returned (.tuple #[.agg (hrC (tk y o.num o.b.2.2.2) q'), .agg (tdC (td y o.num o.b.2.2.2.length)), .int .i64 (pl y o.num o.b.2.2.2.length).1]) ∧ PS w B m x X y q b w' ∧ RA w' (tk y o.num o.b.2.2.2) q' b' ∧ RB b' (tk y o.num o.b.2.2.2) ∧ Ap B m X q' w' ∧ Below W.heap.size W w' :=
  (rtake_any h.ra h.oy h.rb hz.2 hz.1 o.num ho.1 (ho.2.later h.s.below)).mono fun e w' r => h.rtook (tk_ok1 h.oy hz.1).1 r
theorem ps_equal {w W : World} {B X : Nat} {m : Hb} {x : Hd} {q : Rl} {b : List Int} (h : PS w B m x X x q b W) (hz : nx x.l ≤ 1000000000 ∧ x.l.length ≤ 4000) :
    Calls Try.prog 11 #[.pointer (some ⟨B, 0, none⟩), .agg (hrC x q)] W (EqP W) := equal_any h.s.h h.ra h.rb hz.1 hz.2
end
end Go.Proofs.Ytekddgmmfgpehaa.hd
/-!   HeardPlays: what stands beside the two while the document's answer comes: the boxes of a round.
-/
namespace Go.Proofs.Ytekddgmmfgpehaa.hd
open Go.RowKit Go.Shelf aid mem rng sp rn
set_option linter.unusedVariables false
set_option linter.unusedSimpArgs false

/-- the document's lists lie elsewhere -/
structure Nq (q : Rl) (c : Nat) : Prop where
  l : ∀ z, q.la = some z → 0 < q.ln → z.block ≠ c
  b : ∀ z, q.ba = some z → 0 < q.bc → z.block ≠ c
theorem nq_of {W : World} {B X c : Nat} {m : Hb} {y : Hd} {q : Rl} {b : List Int} (ra : RA W y q b) (ap : Ap B m X q W) (hc : W.heap.size ≤ c) : Nq q c :=
  ⟨fun z h1 h2 e => by have := ra.llt z h1 h2; omega, fun z h1 h2 e => by have := (ap.b z h1 h2).2; omega⟩
/-- the two, what the program told, and the last piece -/
structure PD (w : World) (B : Nat) (m : Hb) (x : Hd) (X : Nat) (y : Hd) (q : Rl) (b : List Int) (b14 : Nat) (T : Td) (o : OpV) (W : World) : Prop where
  p : PS w B m x X y q b W
  t : W.heap[b14]? = some (tdO T)
  ob : W.heap[w.heap.size]? = some (opO o)
/-- with the document's answer -/
structure PC (w : World) (B : Nat) (m : Hb) (x : Hd) (X : Nat) (y : Hd) (q : Rl) (b : List Int) (b14 : Nat) (T : Td) (o : OpV) (y' : Hd) (q' : Rl) (b' : List Int) (W : World) : Prop where
  d : PD w B m x X y q b b14 T o W
  ra : RA W y' q' b'
  rb : RB b' y'
  ap : Ap B m X q' W
/-- a box of the round -/
structure BX (w : World) (X b14 : Nat) (q : Rl) (c : Nat) (ob : Obj) (W : World) : Prop where
  h : W.heap[c]? = some ob
  lt : w.heap.size < c
  n14 : c ≠ b14
  nX : c ≠ X
  n : Nq q c
section
variable {w W W' : World} {B X b14 : Nat} {m : Hb} {x y y' : Hd} {q q' : Rl} {b b' : List Int} {T : Td} {o : OpV}
theorem PD.later (h : PD w B m x X y q b b14 T o W) (hb : Below W.heap.size W W') : PD w B m x X y q b b14 T o W' := ⟨h.p.later hb, (hb.block _ (lt_of_block h.t)).trans h.t, (hb.block _ (lt_of_block h.ob)).trans h.ob⟩
theorem PC.later (h : PC w B m x X y q b b14 T o y' q' b' W) (hb : Below W.heap.size W W') : PC w B m x X y q b b14 T o y' q' b' W' :=
  ⟨h.d.later hb, h.ra.later hb, h.rb, ⟨h.ap.l, fun z h1 h2 => ⟨(h.ap.b z h1 h2).1, Nat.lt_of_lt_of_le (h.ap.b z h1 h2).2 hb.size⟩⟩⟩
theorem BX.later {c : Nat} {u : Obj} (h : BX w X b14 q c u W) (hb : Below W.heap.size W W') : BX w X b14 q c u W' := ⟨(hb.block _ (lt_of_block h.h)).trans h.h, h.lt, h.n14, h.nX, h.n⟩
theorem BX.side {c d : Nat} {u : Obj} (h : BX w X b14 q c u W) (hk : Kept [d] W W') (hd : c ≠ d) : BX w X b14 q c u W' := ⟨hk.heap (by simpa using hd) h.h, h.lt, h.n14, h.nX, h.n⟩
theorem PD.box (h : PD w B m x X y q b b14 T o W) (u : Obj) : BX w X b14 q W.heap.size u (W.alloc u) := by
  have h1 := lt_of_block h.t
  have h2 := lt_of_block h.ob
  have h3 := lt_of_block h.p.hx
  exact ⟨heap_alloc_new W u, h2, by omega, by omega, nq_of h.p.ra h.p.ap (Nat.le_refl _)⟩
theorem PC.nq (h : PC w B m x X y q b b14 T o y' q' b' W) : Nq q' W.heap.size := nq_of h.ra h.ap (Nat.le_refl _)
/-- a box of the round is written -/
theorem PD.side {c : Nat} {cs : Array Value} {U : TypeId} (h : PD w B m x X y q b b14 T o W) (k : BX w X b14 q c (.cells cs U (0, 0)) W) (hU : far4 U = true) (hk : Kept [c] W W') : PD w B m x X y q b b14 T o W' := by
  have hU' := hU
  unfold far4 at hU'
  simp at hU'
  have hcp : c ∉ B :: parts m := h.p.s.h.typ k.h hU'.1.1.1 hU'.1.1.2 hU'.1.2 hU'.2
  have hlt := k.lt
  have hn := k.nX
  have hn4 := k.n14
  refine ⟨⟨⟨h.p.s.h.keep hk (fun d hd e => by simp at e; subst e; exact hcp hd), h.p.s.below.trans (hk.below (fun d hd => by simp at hd; omega) h.p.s.below.size), h.p.s.own⟩, hk.heap (by simp; omega) h.p.hx, h.p.hX, h.p.ra.keep hk (fun z h1 h2 e => k.n.l z h1 h2 (by simpa using e)) (fun z h1 h2 e => k.n.b z h1 h2 (by simpa using e)), h.p.rb, h.p.oy, ⟨h.p.ap.l, fun z h1 h2 => ⟨(h.p.ap.b z h1 h2).1, Nat.lt_of_lt_of_le (h.p.ap.b z h1 h2).2 hk.size⟩⟩⟩, hk.heap (by simp; omega) h.t, hk.heap (by simp; omega) h.ob⟩
theorem PC.side {c : Nat} {cs : Array Value} {U : TypeId} (h : PC w B m x X y q b b14 T o y' q' b' W) (k : BX w X b14 q c (.cells cs U (0, 0)) W) (n : Nq q' c) (hU : far4 U = true) (hk : Kept [c] W W') : PC w B m x X y q b b14 T o y' q' b' W' :=
  ⟨h.d.side k hU hk, h.ra.keep hk (fun z h1 h2 e => n.l z h1 h2 (by simpa using e)) (fun z h1 h2 e => n.b z h1 h2 (by simpa using e)), h.rb, ⟨h.ap.l, fun z h1 h2 => ⟨(h.ap.b z h1 h2).1, Nat.lt_of_lt_of_le (h.ap.b z h1 h2).2 hk.size⟩⟩⟩
/-- the document's answer comes: boxes that were made ahead of it are none of its lists' -/
theorem PD.rtake (h : PD w B m x X y q b b14 T o W) (hz : nx y.l ≤ 1000000000 ∧ y.l.length ≤ 4000) {u : OpV} (ho : OpOk w u) :
    Calls Try.prog 10 #[.agg (hrC y q), .int .u32 u.num, .slice u.b.1 u.b.2.1 u.b.2.2.1] W fun e w' => ∃ q' b', e = .returned (.tuple #[.agg (hrC (tk y u.num u.b.2.2.2) q'), .agg (tdC (td y u.num u.b.2.2.2.length)), .int .i64 (pl y u.num u.b.2.2.2.length).1]) ∧ PC w B m x X y q b b14 T o (tk y u.num u.b.2.2.2) q' b' w' ∧ Below W.heap.size W w' ∧ (∀ c, c < W.heap.size → Nq q c → Nq q' c) :=
  (rtake_any h.p.ra h.p.oy h.p.rb hz.2 hz.1 u.num ho.1 (ho.2.later h.p.s.below)).mono fun e w' r => by
    obtain ⟨q', b', r1, r2, r3, r4, r5, r6⟩ := r
    have hX := lt_of_block h.p.hx
    refine ⟨q', b', r1, ⟨h.later r4, r2, r3, ⟨fun z h1 h2 => ?_, fun z h1 h2 => ?_⟩⟩, r4, fun c hc hn => ⟨fun z h1 h2 e => ?_, fun z h1 h2 e => ?_⟩⟩
    · rcases r5 z h1 h2 with ⟨p1, p2⟩ | p
      · exact h.p.ap.l z p1 p2
      · exact ⟨fun e => by have := h.p.s.h.lt _ e; omega, fun e => by omega⟩
    · rcases r6 z h1 h2 with ⟨p1, p2⟩ | ⟨p1, p2⟩
      · exact ⟨(h.p.ap.b z p1 p2).1, Nat.lt_of_lt_of_le (h.p.ap.b z p1 p2).2 r4.size⟩
      · exact ⟨⟨fun e => by have := h.p.s.h.lt _ e; omega, fun e => by omega⟩, p2⟩
    · rcases r5 z h1 h2 with ⟨p1, p2⟩ | p
      · exact hn.l z p1 p2 e
      · omega
    · rcases r6 z h1 h2 with ⟨p1, p2⟩ | ⟨p1, p2⟩
      · exact hn.b z p1 p2 e
      · omega
theorem BX.put4 {c : Nat} (k : BX w X b14 q c hrZ W) (y' : Hd) (q' : Rl) : BX w X b14 q c (hrO y' q') (put4 c (.int .u32 y'.first) (.int .i64 (y'.room : Int)) (.slice q'.la q'.ln q'.lc) (.slice q'.ba q'.bn q'.bc) W) ∧ Kept [c] W (put4 c (.int .u32 y'.first) (.int .i64 (y'.room : Int)) (.slice q'.la q'.ln q'.lc) (.slice q'.ba q'.bn q'.bc) W) :=
  ⟨⟨setq (setq (setq (setq k.h _ rfl) _ rfl) _ rfl) _ rfl, k.lt, k.n14, k.nX, k.n⟩, ((((Kept.refl [c] W).setCell (.inl (by simp)) _).setCell (.inl (by simp)) _).setCell (.inl (by simp)) _).setCell (.inl (by simp)) _⟩
theorem BX.put6 {c : Nat} (k : BX w X b14 q c rtZ W) (U : Td) : BX w X b14 q c (rtO U) (put6 c (.int .i64 U.s.1) (.int .i64 U.s.2) (.int .i64 U.fresh) (.bool (decide (0 < lenI U.dup))) (.int .i64 U.dup.1) (.int .i64 U.dup.2) W) ∧ Kept [c] W (put6 c (.int .i64 U.s.1) (.int .i64 U.s.2) (.int .i64 U.fresh) (.bool (decide (0 < lenI U.dup))) (.int .i64 U.dup.1) (.int .i64 U.dup.2) W) :=
  ⟨⟨setq (setq (setq (setq (setq (setq k.h _ rfl) _ rfl) _ rfl) _ rfl) _ rfl) _ rfl, k.lt, k.n14, k.nX, k.n⟩, put6_kept c _ _ _ _ _ _ W⟩
theorem BX.put4z {c : Nat} {Z : World} (k : BX w X b14 q c hrZ W) (y' : Hd) (q' : Rl) (hZ : ((((W.setCell ⟨c, 0, none⟩ (.int .u32 y'.first)).setCell ⟨c, 1, none⟩ (.int .i64 (y'.room : Int))).setCell ⟨c, 2, none⟩ (.slice q'.la q'.ln q'.lc)).setCell ⟨c, 3, none⟩ (.slice q'.ba q'.bn q'.bc)) = Z) : BX w X b14 q c (hrO y' q') Z ∧ Kept [c] W Z := by
  subst hZ
  exact k.put4 y' q'
theorem BX.put6z {c : Nat} {Z : World} (k : BX w X b14 q c rtZ W) (U : Td) (hZ : ((((((W.setCell ⟨c, 0, none⟩ (.int .i64 U.s.1)).setCell ⟨c, 1, none⟩ (.int .i64 U.s.2)).setCell ⟨c, 2, none⟩ (.int .i64 U.fresh)).setCell ⟨c, 3, none⟩ (.bool (decide (0 < lenI U.dup)))).setCell ⟨c, 4, none⟩ (.int .i64 U.dup.1)).setCell ⟨c, 5, none⟩ (.int .i64 U.dup.2)) = Z) : BX w X b14 q c (rtO U) Z ∧ Kept [c] W Z := by
  subst hZ
  exact k.put6 U
theorem hrz_c {c : Nat} (k : BX w X b14 q c hrZ W) : (W.cell? ⟨c, 0, none⟩ = some (.int .u32 0) ∧ W.cell? ⟨c, 1, none⟩ = some (.int .i64 0) ∧ W.cell? ⟨c, 2, none⟩ = some (.slice none 0 0) ∧ W.cell? ⟨c, 3, none⟩ = some (.slice none 0 0)) ∧ W.frozen? ⟨c, 0, none⟩ = false ∧ W.frozen? ⟨c, 1, none⟩ = false ∧ W.frozen? ⟨c, 2, none⟩ = false ∧ W.frozen? ⟨c, 3, none⟩ = false :=
  ⟨⟨cofr k.h 0 _ rfl, cofr k.h 1 _ rfl, cofr k.h 2 _ rfl, cofr k.h 3 _ rfl⟩, fofr k.h 0, fofr k.h 1, fofr k.h 2, fofr k.h 3⟩
theorem rtz_c {c : Nat} (k : BX w X b14 q c rtZ W) : (W.cell? ⟨c, 0, none⟩ = some (.int .i64 0) ∧ W.cell? ⟨c, 1, none⟩ = some (.int .i64 0) ∧ W.cell? ⟨c, 2, none⟩ = some (.int .i64 0) ∧ W.cell? ⟨c, 3, none⟩ = some (.bool false) ∧ W.cell? ⟨c, 4, none⟩ = some (.int .i64 0) ∧ W.cell? ⟨c, 5, none⟩ = some (.int .i64 0)) ∧ W.frozen? ⟨c, 0, none⟩ = false ∧ W.frozen? ⟨c, 1, none⟩ = false ∧ W.frozen? ⟨c, 2, none⟩ = false ∧ W.frozen? ⟨c, 3, none⟩ = false ∧ W.frozen? ⟨c, 4, none⟩ = false ∧ W.frozen? ⟨c, 5, none⟩ = false :=
  ⟨⟨cofr k.h 0 _ rfl, cofr k.h 1 _ rfl, cofr k.h 2 _ rfl, cofr k.h 3 _ rfl, cofr k.h 4 _ rfl, cofr k.h 5 _ rfl⟩, fofr k.h 0, fofr k.h 1, fofr k.h 2, fofr k.h 3, fofr k.h 4, fofr k.h 5⟩
end
end Go.Proofs.Ytekddgmmfgpehaa.hd
/-!   HeardPlays.
-/
namespace Go.Proofs.Ytekddgmmfgpehaa.hd
open Go.RowKit Go.Shelf aid mem rng sp rn
attribute [local go_sem ↓] Go.wp_at_zero Go.wp_at_succ
set_option linter.unusedVariables false
set_option linter.unusedSimpArgs false

theorem op_cs {W : World} {b : Nat} {o : OpV} (h : W.heap[b]? = some (opO o)) : W.cell? ⟨b, 0, none⟩ = some (.int .u32 o.num) ∧ W.cell? ⟨b, 1, none⟩ = some (.slice o.b.1 o.b.2.1 o.b.2.2.1) := ⟨cofr h 0 _ rfl, cofr h 1 _ rfl⟩
abbrev rtCs (b : Nat) (t : Td) (W : World) : Prop := W.cell? ⟨b, 0, none⟩ = some (.int .i64 t.s.1) ∧ W.cell? ⟨b, 1, none⟩ = some (.int .i64 t.s.2) ∧ W.cell? ⟨b, 2, none⟩ = some (.int .i64 t.fresh) ∧ W.cell? ⟨b, 3, none⟩ = some (.bool (decide (0 < lenI t.dup))) ∧ W.cell? ⟨b, 4, none⟩ = some (.int .i64 t.dup.1) ∧ W.cell? ⟨b, 5, none⟩ = some (.int .i64 t.dup.2)
theorem td_cs {W : World} {b : Nat} {t : Td} (h : W.heap[b]? = some (tdO t)) : rtCs b t W := ⟨cofr h 0 _ rfl, cofr h 1 _ rfl, cofr h 2 _ rfl, cofr h 3 _ rfl, cofr h 4 _ rfl, cofr h 5 _ rfl⟩
theorem rt_cs {W : World} {b : Nat} {t : Td} (h : W.heap[b]? = some (rtO t)) : rtCs b t W := ⟨cofr h 0 _ rfl, cofr h 1 _ rfl, cofr h 2 _ rfl, cofr h 3 _ rfl, cofr h 4 _ rfl, cofr h 5 _ rfl⟩
/-- the document's is put into its box -/
theorem round_put {w W Z : World} {B X b14 c17 : Nat} {m : Hb} {x y y' : Hd} {q q' : Rl} {b b' : List Int} {T U : Td} {o : OpV} (E : PC w B m x X y q b b14 T o y' q' b' W) (k : BX w X b14 q c17 (rtO U) W) (oy' : Ok y')
    (hZ : ((((W.setCell ⟨X, 0, none⟩ (.int .u32 y'.first)).setCell ⟨X, 1, none⟩ (.int .i64 (y'.room : Int))).setCell ⟨X, 2, none⟩ (.slice q'.la q'.ln q'.lc)).setCell ⟨X, 3, none⟩ (.slice q'.ba q'.bn q'.bc)) = Z) :
    PS w B m x X y' q' b' Z ∧ Z.heap[b14]? = some (tdO T) ∧ Z.heap[c17]? = some (rtO U) ∧ Z.heap[w.heap.size]? = some (opO o) := by
  subst hZ
  obtain ⟨p, hk⟩ := E.d.p.put oy' E.ra E.rb E.ap
  exact ⟨p, hk.heap (by simp; exact typ_ne E.d.t E.d.p.hx (by decide)) E.d.t, hk.heap (by simpa using k.nX) k.h, hk.heap (by simp; exact typ_ne E.d.ob E.d.p.hx (by decide)) E.d.ob⟩
/-- a round's state -/
def PI (w : World) (B X : Nat) (o : OpV) (first : Int) (r k : Nat) (sm : Int) (W : World) : Prop := ∃ m x q b, sm = bytesL x.l ∧ PS w B m x X x q b W ∧ Sz (33 * k) x ∧ W.heap[w.heap.size]? = some (opO o)
set_option maxRecDepth 100000 in
set_option maxHeartbeats 8000000 in
theorem walk_HeardPlays (w : World) (first : Int) (hf : 0 ≤ first ∧ first ≤ 4294967295) (room : Int) (hrm : -9223372036854775808 ≤ room ∧ room ≤ 9223372036854775807) (la : Option Addr) (ln lc : Nat) (l : List OpV) (hl : OpA w la ln lc l) (o : {q : OpV // OpOk w q}) :
    Calls Try.prog 3 #[.int .u32 first, .int .i64 room, .slice la ln lc, .agg #[.int .u32 o.1.num, .slice o.1.b.1 o.1.b.2.1 o.1.b.2.2.1]] w fun e w' => e = .returned (.bool true) ∧ Below w.heap.size w w' := by
  obtain ⟨o, hoo⟩ := o
  dsimp only
  have HO := Lib.hid (heap_alloc_new w (opO o))
  have hb := bal (w := w) (opO o)
  have hle := hl.le
  have hmost := hl.most
  have hlen := hl.len
  unfold maxLen at hmost
  have HC := Lib.hid hl.cells
  have HOO := Lib.hid hoo
  clear hl hoo
  by_cases hr : room < 1 ∨ 65536 < room
  case pos =>
    have HNB := Lib.hid (fun X => new_bad first room hr X)
    clear HC
    clear HO HOO
    by_cases h1 : room < 1
    · have h2 : decide (room < 1) = true := by simpa using h1
      go_enter Try.func3, Try.ntmps3
      go_wp2_with (first
        | (go_at_call 7; first
          | ((with_reducible refine (known_v hb3).mono ?_); rintro e w9 ⟨rfl, hb9⟩)
          | ((with_reducible refine (known_w _).mono ?_); rintro e w1 ⟨rfl, hb1⟩; have hb2 := hb.trans (hb1.mono hb.size)))
        | (go_at_call 8; (with_reducible refine (HNB.out _).mono ?_); rintro e w2 ⟨rfl, hbn⟩; have hb3 := hb2.trans (hbn.mono hb2.size)))
      go_ret
      exact ⟨rfl, hb9⟩
    · have h3 : (65536 : Int) < room := by omega
      have h2 : decide (room < 1) = false := by simpa using h1
      have h4 : decide ((65536 : Int) < room) = true := by simpa using h3
      go_enter Try.func3, Try.ntmps3
      go_wp2_with (first
        | (go_at_call 7; first
          | ((with_reducible refine (known_v hb3).mono ?_); rintro e w9 ⟨rfl, hb9⟩)
          | ((with_reducible refine (known_w _).mono ?_); rintro e w1 ⟨rfl, hb1⟩; have hb2 := hb.trans (hb1.mono hb.size)))
        | (go_at_call 8; (with_reducible refine (HNB.out _).mono ?_); rintro e w2 ⟨rfl, hbn⟩; have hb3 := hb2.trans (hbn.mono hb2.size)))
      go_ret
      exact ⟨rfl, hb9⟩
  case neg =>
  obtain ⟨r, rfl⟩ : ∃ r : Nat, room = (r : Int) := ⟨room.toNat, by omega⟩
  have hr1 : ¬ (r : Int) < 1 := by omega
  have hr2 : ¬ (65536 : Int) < (r : Int) := by omega
  have HN := Lib.hid (fun X => show Calls Try.prog 8 #[.int .u32 first, .int .i64 (r : Int)] X (RetN first r X) from new_ok first r hf (by omega) X)
  unfold RetN at HN
  go_enter Try.func3, Try.ntmps3
  go_upto_region 8 with (first
    | (go_at_call 7; (with_reducible refine (known_w _).mono ?_); rintro e w1 ⟨rfl, hb1⟩; have HOB := Lib.hid ((hb1.block _ (lt_of_block HO.out)).trans HO.out); replace hb := hb.trans (hb1.mono hb.size); clear hb1)
    | (go_at_call 8; (with_reducible refine (HN.out _).mono ?_); rintro e w2 ⟨B, m, rfl, n1, n2, n3⟩))
  go_upto_region 9 with fail
  have P0 : PI w B w2.heap.size o first r 0 0 (w2.alloc (hrO ⟨first, r, [], fun _ => 0⟩ ⟨none, 0, 0, none, 0, 0⟩)) := by
    have h12 := hb.trans (n2.mono hb.size)
    have hx := heap_alloc_new w2 (hrO ⟨first, r, [], fun _ => 0⟩ ⟨none, 0, 0, none, 0, 0⟩)
    have hb3 := bal (w := w2) (hrO ⟨first, r, [], fun _ => 0⟩ ⟨none, 0, 0, none, 0, 0⟩)
    have hob2 := (n2.block _ (lt_of_block HOB.out)).trans HOB.out
    exact ⟨m, _, _, _, rfl, PS.new hf (by omega) ⟨n1.later hb3, h12.trans (hb3.mono h12.size), fun c hc => Nat.le_trans hb.size (n3 c hc)⟩ hx h12.size, ⟨by simp, by rw [show nx (Hd.mk first r [] fun _ => 0).l = 0 from nx_nil]; omega⟩, (hb3.block _ (lt_of_block hob2)).trans hob2⟩
  clear n1 n2 n3 hb HOB HO HN
  generalize w2.heap.size = X at *
  generalize w2.alloc (hrO ⟨first, r, [], fun _ => 0⟩ ⟨none, 0, 0, none, 0, 0⟩) = V at *
  go_wp2_with fail
  go_loopw [12, 13] (fun s12 s13 wr => ∃ (k : Nat) (sm : Int), s12 = .int .i64 sm ∧ s13 = .int .i64 k ∧ k ≤ ln ∧ k ≤ 60 ∧ PI w B X o first r k sm wr) (fun _ i _ => 60 - (intOf i).toNat)
  case atStart => exact ⟨0, 0, rfl, rfl, by omega, by omega, P0⟩
  case round =>
    clear P0
    obtain ⟨k, sm, rfl, rfl, hk, hk60, P⟩ := hrel
    by_cases hlt : k < ln ∧ k < 60
    case pos =>
      obtain ⟨hlt, hlt6⟩ := hlt
      have hi1 : (k : Int) < (ln : Int) := by omega
      have hi2 : (k : Int) < 60 := by omega
      have hd1 : decide ((k : Int) < (ln : Int)) = true := by simpa using hlt
      have hd2 : decide ((k : Int) < 60) = true := by simpa using hi2
      obtain ⟨Bo, off, rfl, hc⟩ := HC.out (by omega)
      obtain ⟨c0, c1, hpo⟩ := hc k (by omega)
      generalize l.getD k default = u at *
      obtain ⟨m, x, q, b, hsm, P, hz, hob⟩ := P
      have hzb := sz_bd hz (by omega)
      have hst := sz_step P.oy hz (by omega) u.num u.b.2.2.2
      have hfs := fresh_sum x u.num u.b.2.2.2
      rw [← hsm] at hfs
      have HT := Lib.hid (fun W x' m' (h : PS w B m' x X x' q b W) => ps_take h hzb hpo)
      have HRD := Lib.hid (fun W x' m' b14 T' (h : PD w B m' x' X x q b b14 T' o W) => h.rtake hzb hpo)
      have HEQ := Lib.hid (fun W q' b' m' (h : PS w B m' (tk x u.num u.b.2.2.2) X (tk x u.num u.b.2.2.2) q' b' W) => ps_equal h (sz_bd hst.2 (by omega)))
      generalize hx' : tk x u.num u.b.2.2.2 = x' at *
      generalize td x u.num u.b.2.2.2.length = T at *
      generalize (pl x u.num u.b.2.2.2.length).1 = er at *
      have hbl := hst.1.l.bytes
      have hw1 : IntKind.i64.wrap (sm + T.fresh) = bytesL x'.l := by rw [hfs]; exact IntWalk.i64_in _ (by omega)
      have HH := Lib.hid (And.intro hsm (And.intro hst (And.intro hz hx')))
      have HQ := Lib.hid (And.intro hbl hfs)
      clear hsm hst hz hx' hbl hfs hc
      have HCC := Lib.hid (fun W (h : Below w.heap.size w W) => show W.cell? ⟨Bo, off + k * 2, none⟩ = some (.int .u32 u.num) ∧ W.cell? ⟨Bo, off + k * 2 + 1, none⟩ = some (.slice u.b.1 u.b.2.1 u.b.2.2.1) from ⟨(h.cell (p := ⟨Bo, off + k * 2, none⟩) (World.block_lt_of_cell? w _ c0)).trans c0, (h.cell (p := ⟨Bo, off + k * 2 + 1, none⟩) (World.block_lt_of_cell? w _ c1)).trans c1⟩)
      clear c0 c1
      go_upto_region 13 with fail
      go_cut [14, 15] (fun s14 s15 wx => ∃ b14 m', s14 = .pointer (some ⟨b14, 0, none⟩) ∧ s15 = .int .i64 er ∧ Hid (PS w B m' x' X x q b wx ∧ wx.heap[b14]? = some (tdO T) ∧ wx.heap[w.heap.size]? = some (opO o)))
      case first =>
        have P1 := P.later (Below.refl _ _).drew
        have hob1 : wr.drew.heap[w.heap.size]? = some (opO o) := hob
        have Z1 := HCC.out _ P1.s.below
        clear P hob
        -- R13
        refine wp_region_noPanic ?_
        refine wp_region_held_drew (S := (fun W => W.cell? ⟨Bo, off + k * 2, none⟩ = some (.int .u32 u.num) ∧ W.cell? ⟨Bo, off + k * 2 + 1, none⟩ = some (.slice u.b.1 u.b.2.1 u.b.2.2.1))) (by kernel_rfl) ?_ (fun hHeld => ?_)
        · ((try dsimp only); exact Z1)
        generalize wr.drew = C0 at *
        refine wpAnyH_take (i := 0) (oi := _) (v := ?_) rfl (by kernel_rfl) (by kernel_rfl) (by kernel_rfl) (fun _ _ _ h => h) (Or.inl ⟨by kernel_rfl, ?_⟩) (by assumption) ?_
        rotate_left
        · (first | (intro v hSw; (try dsimp only at hSw); go_simp; done) | (intro v hSw; (try dsimp only at hSw); go_simp; with_reducible rfl))
        (try simp only [List.getElem_toArray, List.getElem_cons_succ, List.getElem_cons_zero, Act.put, List.setIfInBounds_toArray, List.set_cons_zero, List.set_cons_succ])
        refine wpAnyH_take (i := 1) (oi := _) (v := ?_) rfl (by kernel_rfl) (by kernel_rfl) (by kernel_rfl) (fun _ _ _ h => h) (Or.inl ⟨by kernel_rfl, ?_⟩) (by assumption) ?_
        rotate_left
        · (first | (intro v hSw; (try dsimp only at hSw); go_simp; done) | (intro v hSw; (try dsimp only at hSw); go_simp; with_reducible rfl))
        (try simp only [List.getElem_toArray, List.getElem_cons_succ, List.getElem_cons_zero, Act.put, List.setIfInBounds_toArray, List.set_cons_zero, List.set_cons_succ])
        refine wpAnyH_take (i := 2) (oi := _) (v := ?_) rfl (by kernel_rfl) (by kernel_rfl) (by kernel_rfl) (fun _ _ _ h => h) (Or.inl ⟨by kernel_rfl, ?_⟩) (by assumption) ?_
        rotate_left
        · (first | (intro v hSw; (try dsimp only at hSw); go_simp; done) | (intro v hSw; (try dsimp only at hSw); go_simp; with_reducible rfl))
        (try simp only [List.getElem_toArray, List.getElem_cons_succ, List.getElem_cons_zero, Act.put, List.setIfInBounds_toArray, List.set_cons_zero, List.set_cons_succ])
        refine wpAnyH_take (i := 3) (oi := _) (v := ?_) rfl (by kernel_rfl) (by kernel_rfl) (by kernel_rfl) (fun _ _ _ h => h) (Or.inl ⟨by kernel_rfl, ?_⟩) (by assumption) ?_
        rotate_left
        · (first | (intro v hSw; (try dsimp only at hSw); go_simp; done) | (intro v hSw; (try dsimp only at hSw); go_simp; with_reducible rfl))
        (try simp only [List.getElem_toArray, List.getElem_cons_succ, List.getElem_cons_zero, Act.put, List.setIfInBounds_toArray, List.set_cons_zero, List.set_cons_succ])
        refine wpAnyH_take (i := 4) (oi := _) (v := ?_) rfl (by kernel_rfl) (by kernel_rfl) (by kernel_rfl) (fun _ _ _ h => h) (Or.inl ⟨by kernel_rfl, ?_⟩) (by assumption) ?_
        rotate_left
        · (first | (intro v hSw; (try dsimp only at hSw); go_simp; done) | (intro v hSw; (try dsimp only at hSw); go_simp; with_reducible rfl))
        (try simp only [List.getElem_toArray, List.getElem_cons_succ, List.getElem_cons_zero, Act.put, List.setIfInBounds_toArray, List.set_cons_zero, List.set_cons_succ])
        refine wpAnyH_take (i := 5) (oi := _) (v := ?_) rfl (by kernel_rfl) (by kernel_rfl) (by kernel_rfl) (fun _ _ _ h => h) (Or.inl ⟨by kernel_rfl, ?_⟩) (by assumption) ?_
        rotate_left
        · (first | (intro v hSw; (try dsimp only at hSw); go_simp; done) | (intro v hSw; (try dsimp only at hSw); go_simp; with_reducible rfl))
        (try simp only [List.getElem_toArray, List.getElem_cons_succ, List.getElem_cons_zero, Act.put, List.setIfInBounds_toArray, List.set_cons_zero, List.set_cons_succ])
        refine wpAnyH_take (i := 6) (oi := _) (v := ?_) rfl (by kernel_rfl) (by kernel_rfl) (by kernel_rfl) (fun _ _ _ h => h) (Or.inl ⟨by kernel_rfl, ?_⟩) (by assumption) ?_
        rotate_left
        · (first | (intro v hSw; (try dsimp only at hSw); go_simp; done) | (intro v hSw; (try dsimp only at hSw); go_simp; with_reducible rfl))
        (try simp only [List.getElem_toArray, List.getElem_cons_succ, List.getElem_cons_zero, Act.put, List.setIfInBounds_toArray, List.set_cons_zero, List.set_cons_succ])
        refine wpAnyH_take (i := 7) (oi := _) (v := ?_) rfl (by kernel_rfl) (by kernel_rfl) (by kernel_rfl) (fun _ _ _ h => h) (Or.inl ⟨by kernel_rfl, ?_⟩) (by assumption) ?_
        rotate_left
        · (first | (intro v hSw; (try dsimp only at hSw); go_simp; done) | (intro v hSw; (try dsimp only at hSw); go_simp; with_reducible rfl))
        (try simp only [List.getElem_toArray, List.getElem_cons_succ, List.getElem_cons_zero, Act.put, List.setIfInBounds_toArray, List.set_cons_zero, List.set_cons_succ])
        refine wpAnyH_take (i := 8) (oi := _) (v := ?_) rfl (by kernel_rfl) (by kernel_rfl) (by kernel_rfl) (fun _ _ _ h => h) (Or.inl ⟨by kernel_rfl, ?_⟩) (by assumption) ?_
        rotate_left
        · (first | (intro v hSw; (try dsimp only at hSw); go_simp; done) | (intro v hSw; (try dsimp only at hSw); go_simp; with_reducible rfl))
        (try simp only [List.getElem_toArray, List.getElem_cons_succ, List.getElem_cons_zero, Act.put, List.setIfInBounds_toArray, List.set_cons_zero, List.set_cons_succ])
        refine wpAnyH_take (i := 9) (oi := _) (v := ?_) rfl (by kernel_rfl) (by kernel_rfl) (by kernel_rfl) (fun _ _ _ h => h) (Or.inl ⟨by kernel_rfl, ?_⟩) (by assumption) ?_
        rotate_left
        · (first | (intro v hSw; (try dsimp only at hSw); go_simp; done) | (intro v hSw; (try dsimp only at hSw); go_simp; with_reducible rfl))
        (try simp only [List.getElem_toArray, List.getElem_cons_succ, List.getElem_cons_zero, Act.put, List.setIfInBounds_toArray, List.set_cons_zero, List.set_cons_succ])
        refine wpAnyH_take (i := 10) (oi := _) (v := ?_) rfl (by kernel_rfl) (by kernel_rfl) (by kernel_rfl) (fun _ _ _ h => h) (Or.inl ⟨by kernel_rfl, ?_⟩) (by assumption) ?_
        rotate_left
        · (first | (intro v hSw; (try dsimp only at hSw); go_simp; done) | (intro v hSw; (try dsimp only at hSw); go_simp; with_reducible rfl))
        (try simp only [List.getElem_toArray, List.getElem_cons_succ, List.getElem_cons_zero, Act.put, List.setIfInBounds_toArray, List.set_cons_zero, List.set_cons_succ])
        refine wpAnyH_ready (rs := [11, 15]) (by kernel_rfl) (by simp) ?_
        refine AllReadyH.cons (o := _) rfl (fun K hK => ?_) ?_
        · go_simp
          (first | (with_reducible refine (HT.out _ _ _ PZ).mono ?_) | (with_reducible refine (HT.out _ _ _ P1).mono ?_))
          rintro e w3 ⟨rfl, m', P2, F2⟩
          (first | have hob2 := F2 _ _ _ hobZ (by decide) | have hob2 := F2 _ _ _ hob1 (by decide))
          (try (have T2 := F2 _ _ _ TZ (by decide); obtain ⟨⟨e0, e1, e2, e3, e4, e5⟩, f0, f1, f2, f3, f4, f5⟩ := t6_z T2; have hk6 := put6_kept C0.heap.size (.int .i64 T.s.1) (.int .i64 T.s.2) (.int .i64 T.fresh) (.bool (decide (0 < lenI T.dup))) (.int .i64 T.dup.1) (.int .i64 T.dup.2) w3; have P5 := P2.side T2 (by decide) (.inl (by decide)) P1.s.below.size P1 (Nat.le_refl _) hk6; have hob5 := hk6.heap (by have := lt_of_block hob1; simp; omega) hob2; have T5 := put6_td T2 T; have Z5 := HCC.out _ P5.s.below))
          have Z2 := HCC.out _ P2.s.below
          refine hK.out _ _ ?_ (fun hHeld => ?_)
          · ((try dsimp only); first | exact Z4 | exact Z2 | exact Z3 | exact Z1)
          clear hK K
          (try simp only [List.getElem_toArray, List.getElem_cons_succ, List.getElem_cons_zero, Act.put, List.setIfInBounds_toArray, List.set_cons_zero, List.set_cons_succ])
          refine wpAnyH_take (i := 12) (oi := _) (v := ?_) rfl (by kernel_rfl) (by kernel_rfl) (by kernel_rfl) (fun _ _ _ h => h) (Or.inl ⟨by kernel_rfl, ?_⟩) (by assumption) ?_
          rotate_left
          · (first | (intro v hSw; (try dsimp only at hSw); go_simp; done) | (intro v hSw; (try dsimp only at hSw); go_simp; with_reducible rfl))
          (try simp only [List.getElem_toArray, List.getElem_cons_succ, List.getElem_cons_zero, Act.put, List.setIfInBounds_toArray, List.set_cons_zero, List.set_cons_succ])
          refine wpAnyH_take (i := 13) (oi := _) (v := ?_) rfl (by kernel_rfl) (by kernel_rfl) (by kernel_rfl) (fun _ _ _ h => h) (Or.inl ⟨by kernel_rfl, ?_⟩) (by assumption) ?_
          rotate_left
          · (first | (intro v hSw; (try dsimp only at hSw); go_simp; done) | (intro v hSw; (try dsimp only at hSw); go_simp; with_reducible rfl))
          (try simp only [List.getElem_toArray, List.getElem_cons_succ, List.getElem_cons_zero, Act.put, List.setIfInBounds_toArray, List.set_cons_zero, List.set_cons_succ])
          refine wpAnyH_take (i := 14) (oi := _) (v := ?_) rfl (by kernel_rfl) (by kernel_rfl) (by kernel_rfl) (fun _ _ _ h => h) (Or.inl ⟨by kernel_rfl, ?_⟩) (by assumption) ?_
          rotate_left
          · (first | (intro v hSw; (try dsimp only at hSw); go_simp; done) | (intro v hSw; (try dsimp only at hSw); go_simp; with_reducible rfl))
          (try simp only [List.getElem_toArray, List.getElem_cons_succ, List.getElem_cons_zero, Act.put, List.setIfInBounds_toArray, List.set_cons_zero, List.set_cons_succ])
          refine wpAnyH_ready (rs := [15]) (by kernel_rfl) (by simp) ?_
          refine AllReadyH.cons (o := _) rfl (fun K hK => ?_) AllReadyH.nil
          go_simp
          (first | (have P4 := P2.later (bal tdZ); have P5 := P2.later (bal (tdO T)); have T5 := heap_alloc_new w3 (tdO T); have hob5 := ((bal (tdO T)).block _ (lt_of_block hob2)).trans hob2; have Z5 := HCC.out _ P5.s.below; have Z4 := HCC.out _ P4.s.below) | (have PZ := P1.later (bal tdZ); have TZ := heap_alloc_new C0 tdZ; have hobZ := ((bal tdZ).block _ (lt_of_block hob1)).trans hob1; have Z3 := HCC.out _ PZ.s.below))
          refine hK.out _ _ ?_ (fun hHeld => ?_)
          · ((try dsimp only); first | exact Z4 | exact Z2 | exact Z3 | exact Z1)
          clear hK K
          (try simp only [List.getElem_toArray, List.getElem_cons_succ, List.getElem_cons_zero, Act.put, List.setIfInBounds_toArray, List.set_cons_zero, List.set_cons_succ])
          refine wpAnyH_ready (rs := [16]) (by kernel_rfl) (by simp) ?_
          refine AllReadyH.cons (o := _) rfl (fun K hK => ?_) AllReadyH.nil
          go_simp
          skip
          refine hK.out _ _ ?_ (fun hHeld => ?_)
          · ((try dsimp only); exact Z5)
          clear hK K
          (try simp only [List.getElem_toArray, List.getElem_cons_succ, List.getElem_cons_zero, Act.put, List.setIfInBounds_toArray, List.set_cons_zero, List.set_cons_succ])
          refine wpAnyH_take (i := 17) (oi := _) (v := ?_) rfl (by kernel_rfl) (by kernel_rfl) (by kernel_rfl) (fun _ _ _ h => h) (Or.inl ⟨by kernel_rfl, ?_⟩) (by assumption) ?_
          rotate_left
          · (first | (intro v hSw; (try dsimp only at hSw); go_simp; done) | (intro v hSw; (try dsimp only at hSw); go_simp; with_reducible rfl))
          (try simp only [List.getElem_toArray, List.getElem_cons_succ, List.getElem_cons_zero, Act.put, List.setIfInBounds_toArray, List.set_cons_zero, List.set_cons_succ])
          refine wpAnyH_done (by kernel_rfl) ?_ _
          refine NoPanic.normal ?_
          have HF := Lib.hid (And.intro P5 (And.intro T5 hob5))
          clear P5 T5 hob5
          go_wp2_with fail
          go_meet
          exact ⟨_, _, rfl, rfl, HF⟩
        refine AllReadyH.cons (o := _) rfl (fun K hK => ?_) AllReadyH.nil
        go_simp
        (first | (have P4 := P2.later (bal tdZ); have P5 := P2.later (bal (tdO T)); have T5 := heap_alloc_new w3 (tdO T); have hob5 := ((bal (tdO T)).block _ (lt_of_block hob2)).trans hob2; have Z5 := HCC.out _ P5.s.below; have Z4 := HCC.out _ P4.s.below) | (have PZ := P1.later (bal tdZ); have TZ := heap_alloc_new C0 tdZ; have hobZ := ((bal tdZ).block _ (lt_of_block hob1)).trans hob1; have Z3 := HCC.out _ PZ.s.below))
        refine hK.out _ _ ?_ (fun hHeld => ?_)
        · ((try dsimp only); first | exact Z4 | exact Z2 | exact Z3 | exact Z1)
        clear hK K
        (try simp only [List.getElem_toArray, List.getElem_cons_succ, List.getElem_cons_zero, Act.put, List.setIfInBounds_toArray, List.set_cons_zero, List.set_cons_succ])
        refine wpAnyH_ready (rs := [11]) (by kernel_rfl) (by simp) ?_
        refine AllReadyH.cons (o := _) rfl (fun K hK => ?_) AllReadyH.nil
        go_simp
        (first | (with_reducible refine (HT.out _ _ _ PZ).mono ?_) | (with_reducible refine (HT.out _ _ _ P1).mono ?_))
        rintro e w3 ⟨rfl, m', P2, F2⟩
        (first | have hob2 := F2 _ _ _ hobZ (by decide) | have hob2 := F2 _ _ _ hob1 (by decide))
        (try (have T2 := F2 _ _ _ TZ (by decide); obtain ⟨⟨e0, e1, e2, e3, e4, e5⟩, f0, f1, f2, f3, f4, f5⟩ := t6_z T2; have hk6 := put6_kept C0.heap.size (.int .i64 T.s.1) (.int .i64 T.s.2) (.int .i64 T.fresh) (.bool (decide (0 < lenI T.dup))) (.int .i64 T.dup.1) (.int .i64 T.dup.2) w3; have P5 := P2.side T2 (by decide) (.inl (by decide)) P1.s.below.size P1 (Nat.le_refl _) hk6; have hob5 := hk6.heap (by have := lt_of_block hob1; simp; omega) hob2; have T5 := put6_td T2 T; have Z5 := HCC.out _ P5.s.below))
        have Z2 := HCC.out _ P2.s.below
        refine hK.out _ _ ?_ (fun hHeld => ?_)
        · ((try dsimp only); first | exact Z4 | exact Z2 | exact Z3 | exact Z1)
        clear hK K
        (try simp only [List.getElem_toArray, List.getElem_cons_succ, List.getElem_cons_zero, Act.put, List.setIfInBounds_toArray, List.set_cons_zero, List.set_cons_succ])
        refine wpAnyH_take (i := 12) (oi := _) (v := ?_) rfl (by kernel_rfl) (by kernel_rfl) (by kernel_rfl) (fun _ _ _ h => h) (Or.inl ⟨by kernel_rfl, ?_⟩) (by assumption) ?_
        rotate_left
        · (first | (intro v hSw; (try dsimp only at hSw); go_simp; done) | (intro v hSw; (try dsimp only at hSw); go_simp; with_reducible rfl))
        (try simp only [List.getElem_toArray, List.getElem_cons_succ, List.getElem_cons_zero, Act.put, List.setIfInBounds_toArray, List.set_cons_zero, List.set_cons_succ])
        refine wpAnyH_take (i := 13) (oi := _) (v := ?_) rfl (by kernel_rfl) (by kernel_rfl) (by kernel_rfl) (fun _ _ _ h => h) (Or.inl ⟨by kernel_rfl, ?_⟩) (by assumption) ?_
        rotate_left
        · (first | (intro v hSw; (try dsimp only at hSw); go_simp; done) | (intro v hSw; (try dsimp only at hSw); go_simp; with_reducible rfl))
        (try simp only [List.getElem_toArray, List.getElem_cons_succ, List.getElem_cons_zero, Act.put, List.setIfInBounds_toArray, List.set_cons_zero, List.set_cons_succ])
        refine wpAnyH_take (i := 14) (oi := _) (v := ?_) rfl (by kernel_rfl) (by kernel_rfl) (by kernel_rfl) (fun _ _ _ h => h) (Or.inl ⟨by kernel_rfl, ?_⟩) (by assumption) ?_
        rotate_left
        · (first | (intro v hSw; (try dsimp only at hSw); go_simp; done) | (intro v hSw; (try dsimp only at hSw); go_simp; with_reducible rfl))
        (try simp only [List.getElem_toArray, List.getElem_cons_succ, List.getElem_cons_zero, Act.put, List.setIfInBounds_toArray, List.set_cons_zero, List.set_cons_succ])
        refine wpAnyH_ready (rs := [16]) (by kernel_rfl) (by simp) ?_
        refine AllReadyH.cons (o := _) rfl (fun K hK => ?_) AllReadyH.nil
        go_simp
        skip
        refine hK.out _ _ ?_ (fun hHeld => ?_)
        · ((try dsimp only); exact Z5)
        clear hK K
        (try simp only [List.getElem_toArray, List.getElem_cons_succ, List.getElem_cons_zero, Act.put, List.setIfInBounds_toArray, List.set_cons_zero, List.set_cons_succ])
        refine wpAnyH_take (i := 17) (oi := _) (v := ?_) rfl (by kernel_rfl) (by kernel_rfl) (by kernel_rfl) (fun _ _ _ h => h) (Or.inl ⟨by kernel_rfl, ?_⟩) (by assumption) ?_
        rotate_left
        · (first | (intro v hSw; (try dsimp only at hSw); go_simp; done) | (intro v hSw; (try dsimp only at hSw); go_simp; with_reducible rfl))
        (try simp only [List.getElem_toArray, List.getElem_cons_succ, List.getElem_cons_zero, Act.put, List.setIfInBounds_toArray, List.set_cons_zero, List.set_cons_succ])
        refine wpAnyH_done (by kernel_rfl) ?_ _
        refine NoPanic.normal ?_
        have HF := Lib.hid (And.intro P5 (And.intro T5 hob5))
        clear P5 T5 hob5
        go_wp2_with fail
        go_meet
        exact ⟨_, _, rfl, rfl, HF⟩
        -- R13 END
      case rest =>
      obtain ⟨b14, m', rfl, rfl, HS⟩ := hcut
      generalize wc = V1 at *
      clear P hob
      have HS14 := Lib.hid (fun W x' m' b14 T' (h : PD w B m' x' X x q b b14 T' o W) => show W.cell? ⟨Bo, off + k * 2, none⟩ = some (.int .u32 u.num) ∧ W.cell? ⟨Bo, off + k * 2 + 1, none⟩ = some (.slice u.b.1 u.b.2.1 u.b.2.2.1) ∧ W.cell? ⟨X, 0, none⟩ = some (.int .u32 x.first) ∧ W.cell? ⟨X, 1, none⟩ = some (.int .i64 (x.room : Int)) ∧ W.cell? ⟨X, 2, none⟩ = some (.slice q.la q.ln q.lc) ∧ W.cell? ⟨X, 3, none⟩ = some (.slice q.ba q.bn q.bc) from
        ⟨(HCC.out _ h.p.s.below).1, (HCC.out _ h.p.s.below).2, (h4_of h.p.hx).1, (h4_of h.p.hx).2.1, (h4_of h.p.hx).2.2.1, (h4_of h.p.hx).2.2.2⟩)
      go_upto_region 14 with fail
      go_cut [16, 17, 18] (fun s16 s17 s18 wx => ∃ c16 c17 q' b', s16 = .pointer (some ⟨c16, 0, none⟩) ∧ s17 = .pointer (some ⟨c17, 0, none⟩) ∧ s18 = .int .i64 er ∧ Hid (PC w B m' x' X x q b b14 T o x' q' b' wx ∧ BX w X b14 q c16 (hrO x' q') wx ∧ BX w X b14 q c17 (rtO T) wx))
      case first =>
        have D : PD w B m' x' X x q b b14 T o V1.drew := ⟨HS.out.1.later (Below.refl _ _).drew, HS.out.2.1, HS.out.2.2⟩
        clear HS
        -- R14
        refine wp_region_noPanic ?_
        refine wp_region_held_drew (S := (fun W => W.cell? ⟨Bo, off + k * 2, none⟩ = some (.int .u32 u.num) ∧ W.cell? ⟨Bo, off + k * 2 + 1, none⟩ = some (.slice u.b.1 u.b.2.1 u.b.2.2.1) ∧ W.cell? ⟨X, 0, none⟩ = some (.int .u32 x.first) ∧ W.cell? ⟨X, 1, none⟩ = some (.int .i64 (x.room : Int)) ∧ W.cell? ⟨X, 2, none⟩ = some (.slice q.la q.ln q.lc) ∧ W.cell? ⟨X, 3, none⟩ = some (.slice q.ba q.bn q.bc))) (by kernel_rfl) ?_ (fun hHeld => ?_)
        · ((try dsimp only); exact HS14.out _ _ _ _ _ D)
        generalize V1.drew = C0 at *
        refine wpAnyH_take (i := 0) (oi := _) (v := ?_) rfl (by kernel_rfl) (by kernel_rfl) (by kernel_rfl) (fun _ _ _ h => h) (Or.inl ⟨by kernel_rfl, ?_⟩) (by assumption) ?_
        rotate_left
        · (first | (intro v hSw; (try dsimp only at hSw); go_simp; done) | (intro v hSw; (try dsimp only at hSw); go_simp; with_reducible rfl))
        (try simp only [List.getElem_toArray, List.getElem_cons_succ, List.getElem_cons_zero, Act.put, List.setIfInBounds_toArray, List.set_cons_zero, List.set_cons_succ])
        refine wpAnyH_take (i := 1) (oi := _) (v := ?_) rfl (by kernel_rfl) (by kernel_rfl) (by kernel_rfl) (fun _ _ _ h => h) (Or.inl ⟨by kernel_rfl, ?_⟩) (by assumption) ?_
        rotate_left
        · (first | (intro v hSw; (try dsimp only at hSw); go_simp; done) | (intro v hSw; (try dsimp only at hSw); go_simp; with_reducible rfl))
        (try simp only [List.getElem_toArray, List.getElem_cons_succ, List.getElem_cons_zero, Act.put, List.setIfInBounds_toArray, List.set_cons_zero, List.set_cons_succ])
        refine wpAnyH_take (i := 2) (oi := _) (v := ?_) rfl (by kernel_rfl) (by kernel_rfl) (by kernel_rfl) (fun _ _ _ h => h) (Or.inl ⟨by kernel_rfl, ?_⟩) (by assumption) ?_
        rotate_left
        · (first | (intro v hSw; (try dsimp only at hSw); go_simp; done) | (intro v hSw; (try dsimp only at hSw); go_simp; with_reducible rfl))
        (try simp only [List.getElem_toArray, List.getElem_cons_succ, List.getElem_cons_zero, Act.put, List.setIfInBounds_toArray, List.set_cons_zero, List.set_cons_succ])
        refine wpAnyH_take (i := 3) (oi := _) (v := ?_) rfl (by kernel_rfl) (by kernel_rfl) (by kernel_rfl) (fun _ _ _ h => h) (Or.inl ⟨by kernel_rfl, ?_⟩) (by assumption) ?_
        rotate_left
        · (first | (intro v hSw; (try dsimp only at hSw); go_simp; done) | (intro v hSw; (try dsimp only at hSw); go_simp; with_reducible rfl))
        (try simp only [List.getElem_toArray, List.getElem_cons_succ, List.getElem_cons_zero, Act.put, List.setIfInBounds_toArray, List.set_cons_zero, List.set_cons_succ])
        refine wpAnyH_take (i := 4) (oi := _) (v := ?_) rfl (by kernel_rfl) (by kernel_rfl) (by kernel_rfl) (fun _ _ _ h => h) (Or.inl ⟨by kernel_rfl, ?_⟩) (by assumption) ?_
        rotate_left
        · (first | (intro v hSw; (try dsimp only at hSw); go_simp; done) | (intro v hSw; (try dsimp only at hSw); go_simp; with_reducible rfl))
        (try simp only [List.getElem_toArray, List.getElem_cons_succ, List.getElem_cons_zero, Act.put, List.setIfInBounds_toArray, List.set_cons_zero, List.set_cons_succ])
        refine wpAnyH_take (i := 5) (oi := _) (v := ?_) rfl (by kernel_rfl) (by kernel_rfl) (by kernel_rfl) (fun _ _ _ h => h) (Or.inl ⟨by kernel_rfl, ?_⟩) (by assumption) ?_
        rotate_left
        · (first | (intro v hSw; (try dsimp only at hSw); go_simp; done) | (intro v hSw; (try dsimp only at hSw); go_simp; with_reducible rfl))
        (try simp only [List.getElem_toArray, List.getElem_cons_succ, List.getElem_cons_zero, Act.put, List.setIfInBounds_toArray, List.set_cons_zero, List.set_cons_succ])
        refine wpAnyH_take (i := 6) (oi := _) (v := ?_) rfl (by kernel_rfl) (by kernel_rfl) (by kernel_rfl) (fun _ _ _ h => h) (Or.inl ⟨by kernel_rfl, ?_⟩) (by assumption) ?_
        rotate_left
        · (first | (intro v hSw; (try dsimp only at hSw); go_simp; done) | (intro v hSw; (try dsimp only at hSw); go_simp; with_reducible rfl))
        (try simp only [List.getElem_toArray, List.getElem_cons_succ, List.getElem_cons_zero, Act.put, List.setIfInBounds_toArray, List.set_cons_zero, List.set_cons_succ])
        refine wpAnyH_take (i := 7) (oi := _) (v := ?_) rfl (by kernel_rfl) (by kernel_rfl) (by kernel_rfl) (fun _ _ _ h => h) (Or.inl ⟨by kernel_rfl, ?_⟩) (by assumption) ?_
        rotate_left
        · (first | (intro v hSw; (try dsimp only at hSw); go_simp; done) | (intro v hSw; (try dsimp only at hSw); go_simp; with_reducible rfl))
        (try simp only [List.getElem_toArray, List.getElem_cons_succ, List.getElem_cons_zero, Act.put, List.setIfInBounds_toArray, List.set_cons_zero, List.set_cons_succ])
        refine wpAnyH_take (i := 8) (oi := _) (v := ?_) rfl (by kernel_rfl) (by kernel_rfl) (by kernel_rfl) (fun _ _ _ h => h) (Or.inl ⟨by kernel_rfl, ?_⟩) (by assumption) ?_
        rotate_left
        · (first | (intro v hSw; (try dsimp only at hSw); go_simp; done) | (intro v hSw; (try dsimp only at hSw); go_simp; with_reducible rfl))
        (try simp only [List.getElem_toArray, List.getElem_cons_succ, List.getElem_cons_zero, Act.put, List.setIfInBounds_toArray, List.set_cons_zero, List.set_cons_succ])
        refine wpAnyH_take (i := 9) (oi := _) (v := ?_) rfl (by kernel_rfl) (by kernel_rfl) (by kernel_rfl) (fun _ _ _ h => h) (Or.inl ⟨by kernel_rfl, ?_⟩) (by assumption) ?_
        rotate_left
        · (first | (intro v hSw; (try dsimp only at hSw); go_simp; done) | (intro v hSw; (try dsimp only at hSw); go_simp; with_reducible rfl))
        (try simp only [List.getElem_toArray, List.getElem_cons_succ, List.getElem_cons_zero, Act.put, List.setIfInBounds_toArray, List.set_cons_zero, List.set_cons_succ])
        refine wpAnyH_take (i := 10) (oi := _) (v := ?_) rfl (by kernel_rfl) (by kernel_rfl) (by kernel_rfl) (fun _ _ _ h => h) (Or.inl ⟨by kernel_rfl, ?_⟩) (by assumption) ?_
        rotate_left
        · (first | (intro v hSw; (try dsimp only at hSw); go_simp; done) | (intro v hSw; (try dsimp only at hSw); go_simp; with_reducible rfl))
        (try simp only [List.getElem_toArray, List.getElem_cons_succ, List.getElem_cons_zero, Act.put, List.setIfInBounds_toArray, List.set_cons_zero, List.set_cons_succ])
        refine wpAnyH_ready (rs := [11, 16, 17]) (by kernel_rfl) (by simp) ?_
        refine AllReadyH.cons (o := _) rfl (fun K hK => ?_) ?_
        · go_simp
          (with_reducible refine (HRD.out _ _ _ _ _ D).mono ?_)
          rintro e N1 ⟨q', b', rfl, E, hbl, hnq⟩
          clear D hbl hnq
          refine hK.out _ _ ?_ (fun hHeld => ?_)
          · ((try dsimp only); exact HS14.out _ _ _ _ _ E.d)
          clear hK K
          (try simp only [List.getElem_toArray, List.getElem_cons_succ, List.getElem_cons_zero, Act.put, List.setIfInBounds_toArray, List.set_cons_zero, List.set_cons_succ])
          refine wpAnyH_take (i := 12) (oi := _) (v := ?_) rfl (by kernel_rfl) (by kernel_rfl) (by kernel_rfl) (fun _ _ _ h => h) (Or.inl ⟨by kernel_rfl, ?_⟩) (by assumption) ?_
          rotate_left
          · (first | (intro v hSw; (try dsimp only at hSw); go_simp; done) | (intro v hSw; (try dsimp only at hSw); go_simp; with_reducible rfl))
          (try simp only [List.getElem_toArray, List.getElem_cons_succ, List.getElem_cons_zero, Act.put, List.setIfInBounds_toArray, List.set_cons_zero, List.set_cons_succ])
          refine wpAnyH_take (i := 13) (oi := _) (v := ?_) rfl (by kernel_rfl) (by kernel_rfl) (by kernel_rfl) (fun _ _ _ h => h) (Or.inl ⟨by kernel_rfl, ?_⟩) (by assumption) ?_
          rotate_left
          · (first | (intro v hSw; (try dsimp only at hSw); go_simp; done) | (intro v hSw; (try dsimp only at hSw); go_simp; with_reducible rfl))
          (try simp only [List.getElem_toArray, List.getElem_cons_succ, List.getElem_cons_zero, Act.put, List.setIfInBounds_toArray, List.set_cons_zero, List.set_cons_succ])
          refine wpAnyH_take (i := 14) (oi := _) (v := ?_) rfl (by kernel_rfl) (by kernel_rfl) (by kernel_rfl) (fun _ _ _ h => h) (Or.inl ⟨by kernel_rfl, ?_⟩) (by assumption) ?_
          rotate_left
          · (first | (intro v hSw; (try dsimp only at hSw); go_simp; done) | (intro v hSw; (try dsimp only at hSw); go_simp; with_reducible rfl))
          (try simp only [List.getElem_toArray, List.getElem_cons_succ, List.getElem_cons_zero, Act.put, List.setIfInBounds_toArray, List.set_cons_zero, List.set_cons_succ])
          refine wpAnyH_take (i := 15) (oi := _) (v := ?_) rfl (by kernel_rfl) (by kernel_rfl) (by kernel_rfl) (fun _ _ _ h => h) (Or.inl ⟨by kernel_rfl, ?_⟩) (by assumption) ?_
          rotate_left
          · (first | (intro v hSw; (try dsimp only at hSw); go_simp; done) | (intro v hSw; (try dsimp only at hSw); go_simp; with_reducible rfl))
          (try simp only [List.getElem_toArray, List.getElem_cons_succ, List.getElem_cons_zero, Act.put, List.setIfInBounds_toArray, List.set_cons_zero, List.set_cons_succ])
          refine wpAnyH_ready (rs := [16, 17]) (by kernel_rfl) (by simp) ?_
          refine AllReadyH.cons (o := _) rfl (fun K hK => ?_) ?_
          · go_simp
            have hbl := bal (w := N1) hrZ
            have k16 := E.d.box hrZ
            have n16 := E.nq
            replace E := E.later hbl
            clear hbl
            generalize N1.alloc hrZ = N2 at *
            generalize N1.heap.size = c16 at *
            refine hK.out _ _ ?_ (fun hHeld => ?_)
            · ((try dsimp only); exact HS14.out _ _ _ _ _ E.d)
            clear hK K
            (try simp only [List.getElem_toArray, List.getElem_cons_succ, List.getElem_cons_zero, Act.put, List.setIfInBounds_toArray, List.set_cons_zero, List.set_cons_succ])
            refine wpAnyH_ready (rs := [17]) (by kernel_rfl) (by simp) ?_
            refine AllReadyH.cons (o := _) rfl (fun K hK => ?_) AllReadyH.nil
            go_simp
            have hbl := bal (w := N2) rtZ
            have k17 := E.d.box rtZ
            have n17 := E.nq
            replace E := E.later hbl
            have h67 : N2.heap.size ≠ c16 := by have := lt_of_block k16.h; omega
            replace k16 := k16.later hbl
            clear hbl
            generalize N2.alloc rtZ = N3 at *
            generalize N2.heap.size = c17 at *
            (try clear e0 e1 e2 e3 f0 f1 f2 f3)
            (try clear g0 g1 g2 g3 g4 g5 h0 h1 h2 h3 h4 h5)
            obtain ⟨⟨e0, e1, e2, e3⟩, f0, f1, f2, f3⟩ := hrz_c k16
            obtain ⟨⟨g0, g1, g2, g3, g4, g5⟩, h0, h1, h2, h3, h4, h5⟩ := rtz_c k17
            refine hK.out _ _ ?_ (fun hHeld => ?_)
            · ((try dsimp only); exact HS14.out _ _ _ _ _ E.d)
            clear hK K
            (try simp only [List.getElem_toArray, List.getElem_cons_succ, List.getElem_cons_zero, Act.put, List.setIfInBounds_toArray, List.set_cons_zero, List.set_cons_succ])
            refine wpAnyH_ready (rs := [18]) (by kernel_rfl) (by simp) ?_
            refine AllReadyH.cons (o := _) rfl (fun K hK => ?_) AllReadyH.nil
            go_simp
            generalize hch : ((((N3.setCell ⟨c16, 0, none⟩ (.int .u32 x'.first)).setCell ⟨c16, 1, none⟩ (.int .i64 (x'.room : Int))).setCell ⟨c16, 2, none⟩ (.slice q'.la q'.ln q'.lc)).setCell ⟨c16, 3, none⟩ (.slice q'.ba q'.bn q'.bc)) = N4
            obtain ⟨kk, hk⟩ := k16.put4z x' q' hch
            replace E := E.side k16 n16 (by decide) hk
            replace k17 := k17.side hk (by first | exact h67 | exact h67.symm)
            clear hk hch k16
            have k16 := kk
            clear kk
            (try clear e0 e1 e2 e3 f0 f1 f2 f3)
            (try clear g0 g1 g2 g3 g4 g5 h0 h1 h2 h3 h4 h5)
            obtain ⟨⟨g0, g1, g2, g3, g4, g5⟩, h0, h1, h2, h3, h4, h5⟩ := rtz_c k17
            refine hK.out _ _ ?_ (fun hHeld => ?_)
            · ((try dsimp only); exact HS14.out _ _ _ _ _ E.d)
            clear hK K
            (try simp only [List.getElem_toArray, List.getElem_cons_succ, List.getElem_cons_zero, Act.put, List.setIfInBounds_toArray, List.set_cons_zero, List.set_cons_succ])
            refine wpAnyH_ready (rs := [19]) (by kernel_rfl) (by simp) ?_
            refine AllReadyH.cons (o := _) rfl (fun K hK => ?_) AllReadyH.nil
            go_simp
            generalize hch : ((((((N4.setCell ⟨c17, 0, none⟩ (.int .i64 T.s.1)).setCell ⟨c17, 1, none⟩ (.int .i64 T.s.2)).setCell ⟨c17, 2, none⟩ (.int .i64 T.fresh)).setCell ⟨c17, 3, none⟩ (.bool (decide (0 < lenI T.dup)))).setCell ⟨c17, 4, none⟩ (.int .i64 T.dup.1)).setCell ⟨c17, 5, none⟩ (.int .i64 T.dup.2)) = N5
            obtain ⟨kk, hk⟩ := k17.put6z T hch
            replace E := E.side k17 n17 (by decide) hk
            replace k16 := k16.side hk (by first | exact h67 | exact h67.symm)
            clear hk hch k17
            have k17 := kk
            clear kk
            (try clear e0 e1 e2 e3 f0 f1 f2 f3)
            (try clear g0 g1 g2 g3 g4 g5 h0 h1 h2 h3 h4 h5)
            refine hK.out _ _ ?_ (fun hHeld => ?_)
            · ((try dsimp only); exact HS14.out _ _ _ _ _ E.d)
            clear hK K
            (try simp only [List.getElem_toArray, List.getElem_cons_succ, List.getElem_cons_zero, Act.put, List.setIfInBounds_toArray, List.set_cons_zero, List.set_cons_succ])
            refine wpAnyH_take (i := 20) (oi := _) (v := ?_) rfl (by kernel_rfl) (by kernel_rfl) (by kernel_rfl) (fun _ _ _ h => h) (Or.inl ⟨by kernel_rfl, ?_⟩) (by assumption) ?_
            rotate_left
            · (first | (intro v hSw; (try dsimp only at hSw); go_simp; done) | (intro v hSw; (try dsimp only at hSw); go_simp; with_reducible rfl))
            (try simp only [List.getElem_toArray, List.getElem_cons_succ, List.getElem_cons_zero, Act.put, List.setIfInBounds_toArray, List.set_cons_zero, List.set_cons_succ])
            refine wpAnyH_done (by kernel_rfl) ?_ _
            refine NoPanic.normal ?_
            have HF := Lib.hid (And.intro E (And.intro k16 k17))
            clear E k16 k17 n16 n17 h67
            go_wp2_with fail
            go_meet
            exact ⟨_, _, _, _, rfl, rfl, rfl, HF⟩
          refine AllReadyH.cons (o := _) rfl (fun K hK => ?_) AllReadyH.nil
          go_simp
          have hbl := bal (w := N1) rtZ
          have k17 := E.d.box rtZ
          have n17 := E.nq
          replace E := E.later hbl
          clear hbl
          generalize N1.alloc rtZ = N2 at *
          generalize N1.heap.size = c17 at *
          refine hK.out _ _ ?_ (fun hHeld => ?_)
          · ((try dsimp only); exact HS14.out _ _ _ _ _ E.d)
          clear hK K
          (try simp only [List.getElem_toArray, List.getElem_cons_succ, List.getElem_cons_zero, Act.put, List.setIfInBounds_toArray, List.set_cons_zero, List.set_cons_succ])
          refine wpAnyH_ready (rs := [16]) (by kernel_rfl) (by simp) ?_
          refine AllReadyH.cons (o := _) rfl (fun K hK => ?_) AllReadyH.nil
          go_simp
          have hbl := bal (w := N2) hrZ
          have k16 := E.d.box hrZ
          have n16 := E.nq
          replace E := E.later hbl
          have h67 : N2.heap.size ≠ c17 := by have := lt_of_block k17.h; omega
          replace k17 := k17.later hbl
          clear hbl
          generalize N2.alloc hrZ = N3 at *
          generalize N2.heap.size = c16 at *
          (try clear e0 e1 e2 e3 f0 f1 f2 f3)
          (try clear g0 g1 g2 g3 g4 g5 h0 h1 h2 h3 h4 h5)
          obtain ⟨⟨e0, e1, e2, e3⟩, f0, f1, f2, f3⟩ := hrz_c k16
          obtain ⟨⟨g0, g1, g2, g3, g4, g5⟩, h0, h1, h2, h3, h4, h5⟩ := rtz_c k17
          refine hK.out _ _ ?_ (fun hHeld => ?_)
          · ((try dsimp only); exact HS14.out _ _ _ _ _ E.d)
          clear hK K
          (try simp only [List.getElem_toArray, List.getElem_cons_succ, List.getElem_cons_zero, Act.put, List.setIfInBounds_toArray, List.set_cons_zero, List.set_cons_succ])
          refine wpAnyH_ready (rs := [18]) (by kernel_rfl) (by simp) ?_
          refine AllReadyH.cons (o := _) rfl (fun K hK => ?_) AllReadyH.nil
          go_simp
          generalize hch : ((((N3.setCell ⟨c16, 0, none⟩ (.int .u32 x'.first)).setCell ⟨c16, 1, none⟩ (.int .i64 (x'.room : Int))).setCell ⟨c16, 2, none⟩ (.slice q'.la q'.ln q'.lc)).setCell ⟨c16, 3, none⟩ (.slice q'.ba q'.bn q'.bc)) = N4
          obtain ⟨kk, hk⟩ := k16.put4z x' q' hch
          replace E := E.side k16 n16 (by decide) hk
          replace k17 := k17.side hk (by first | exact h67 | exact h67.symm)
          clear hk hch k16
          have k16 := kk
          clear kk
          (try clear e0 e1 e2 e3 f0 f1 f2 f3)
          (try clear g0 g1 g2 g3 g4 g5 h0 h1 h2 h3 h4 h5)
          obtain ⟨⟨g0, g1, g2, g3, g4, g5⟩, h0, h1, h2, h3, h4, h5⟩ := rtz_c k17
          refine hK.out _ _ ?_ (fun hHeld => ?_)
          · ((try dsimp only); exact HS14.out _ _ _ _ _ E.d)
          clear hK K
          (try simp only [List.getElem_toArray, List.getElem_cons_succ, List.getElem_cons_zero, Act.put, List.setIfInBounds_toArray, List.set_cons_zero, List.set_cons_succ])
          refine wpAnyH_ready (rs := [19]) (by kernel_rfl) (by simp) ?_
          refine AllReadyH.cons (o := _) rfl (fun K hK => ?_) AllReadyH.nil
          go_simp
          generalize hch : ((((((N4.setCell ⟨c17, 0, none⟩ (.int .i64 T.s.1)).setCell ⟨c17, 1, none⟩ (.int .i64 T.s.2)).setCell ⟨c17, 2, none⟩ (.int .i64 T.fresh)).setCell ⟨c17, 3, none⟩ (.bool (decide (0 < lenI T.dup)))).setCell ⟨c17, 4, none⟩ (.int .i64 T.dup.1)).setCell ⟨c17, 5, none⟩ (.int .i64 T.dup.2)) = N5
          obtain ⟨kk, hk⟩ := k17.put6z T hch
          replace E := E.side k17 n17 (by decide) hk
          replace k16 := k16.side hk (by first | exact h67 | exact h67.symm)
          clear hk hch k17
          have k17 := kk
          clear kk
          (try clear e0 e1 e2 e3 f0 f1 f2 f3)
          (try clear g0 g1 g2 g3 g4 g5 h0 h1 h2 h3 h4 h5)
          refine hK.out _ _ ?_ (fun hHeld => ?_)
          · ((try dsimp only); exact HS14.out _ _ _ _ _ E.d)
          clear hK K
          (try simp only [List.getElem_toArray, List.getElem_cons_succ, List.getElem_cons_zero, Act.put, List.setIfInBounds_toArray, List.set_cons_zero, List.set_cons_succ])
          refine wpAnyH_take (i := 20) (oi := _) (v := ?_) rfl (by kernel_rfl) (by kernel_rfl) (by kernel_rfl) (fun _ _ _ h => h) (Or.inl ⟨by kernel_rfl, ?_⟩) (by assumption) ?_
          rotate_left
          · (first | (intro v hSw; (try dsimp only at hSw); go_simp; done) | (intro v hSw; (try dsimp only at hSw); go_simp; with_reducible rfl))
          (try simp only [List.getElem_toArray, List.getElem_cons_succ, List.getElem_cons_zero, Act.put, List.setIfInBounds_toArray, List.set_cons_zero, List.set_cons_succ])
          refine wpAnyH_done (by kernel_rfl) ?_ _
          refine NoPanic.normal ?_
          have HF := Lib.hid (And.intro E (And.intro k16 k17))
          clear E k16 k17 n16 n17 h67
          go_wp2_with fail
          go_meet
          exact ⟨_, _, _, _, rfl, rfl, rfl, HF⟩
        refine AllReadyH.cons (o := _) rfl (fun K hK => ?_) ?_
        · go_simp
          have hbl := bal (w := C0) hrZ
          have k16 := D.box hrZ
          replace D := D.later hbl
          clear hbl
          generalize C0.alloc hrZ = N1 at *
          generalize C0.heap.size = c16 at *
          refine hK.out _ _ ?_ (fun hHeld => ?_)
          · ((try dsimp only); exact HS14.out _ _ _ _ _ D)
          clear hK K
          (try simp only [List.getElem_toArray, List.getElem_cons_succ, List.getElem_cons_zero, Act.put, List.setIfInBounds_toArray, List.set_cons_zero, List.set_cons_succ])
          refine wpAnyH_ready (rs := [11, 17]) (by kernel_rfl) (by simp) ?_
          refine AllReadyH.cons (o := _) rfl (fun K hK => ?_) ?_
          · go_simp
            (with_reducible refine (HRD.out _ _ _ _ _ D).mono ?_)
            rintro e N2 ⟨q', b', rfl, E, hbl, hnq⟩
            have n16 := hnq _ (lt_of_block k16.h) k16.n
            replace k16 := k16.later hbl
            clear D hbl hnq
            refine hK.out _ _ ?_ (fun hHeld => ?_)
            · ((try dsimp only); exact HS14.out _ _ _ _ _ E.d)
            clear hK K
            (try simp only [List.getElem_toArray, List.getElem_cons_succ, List.getElem_cons_zero, Act.put, List.setIfInBounds_toArray, List.set_cons_zero, List.set_cons_succ])
            refine wpAnyH_take (i := 12) (oi := _) (v := ?_) rfl (by kernel_rfl) (by kernel_rfl) (by kernel_rfl) (fun _ _ _ h => h) (Or.inl ⟨by kernel_rfl, ?_⟩) (by assumption) ?_
            rotate_left
            · (first | (intro v hSw; (try dsimp only at hSw); go_simp; done) | (intro v hSw; (try dsimp only at hSw); go_simp; with_reducible rfl))
            (try simp only [List.getElem_toArray, List.getElem_cons_succ, List.getElem_cons_zero, Act.put, List.setIfInBounds_toArray, List.set_cons_zero, List.set_cons_succ])
            refine wpAnyH_take (i := 13) (oi := _) (v := ?_) rfl (by kernel_rfl) (by kernel_rfl) (by kernel_rfl) (fun _ _ _ h => h) (Or.inl ⟨by kernel_rfl, ?_⟩) (by assumption) ?_
            rotate_left
            · (first | (intro v hSw; (try dsimp only at hSw); go_simp; done) | (intro v hSw; (try dsimp only at hSw); go_simp; with_reducible rfl))
            (try simp only [List.getElem_toArray, List.getElem_cons_succ, List.getElem_cons_zero, Act.put, List.setIfInBounds_toArray, List.set_cons_zero, List.set_cons_succ])
            refine wpAnyH_take (i := 14) (oi := _) (v := ?_) rfl (by kernel_rfl) (by kernel_rfl) (by kernel_rfl) (fun _ _ _ h => h) (Or.inl ⟨by kernel_rfl, ?_⟩) (by assumption) ?_
            rotate_left
            · (first | (intro v hSw; (try dsimp only at hSw); go_simp; done) | (intro v hSw; (try dsimp only at hSw); go_simp; with_reducible rfl))
            (try simp only [List.getElem_toArray, List.getElem_cons_succ, List.getElem_cons_zero, Act.put, List.setIfInBounds_toArray, List.set_cons_zero, List.set_cons_succ])
            refine wpAnyH_take (i := 15) (oi := _) (v := ?_) rfl (by kernel_rfl) (by kernel_rfl) (by kernel_rfl) (fun _ _ _ h => h) (Or.inl ⟨by kernel_rfl, ?_⟩) (by assumption) ?_
            rotate_left
            · (first | (intro v hSw; (try dsimp only at hSw); go_simp; done) | (intro v hSw; (try dsimp only at hSw); go_simp; with_reducible rfl))
            (try simp only [List.getElem_toArray, List.getElem_cons_succ, List.getElem_cons_zero, Act.put, List.setIfInBounds_toArray, List.set_cons_zero, List.set_cons_succ])
            refine wpAnyH_ready (rs := [17]) (by kernel_rfl) (by simp) ?_
            refine AllReadyH.cons (o := _) rfl (fun K hK => ?_) AllReadyH.nil
            go_simp
            have hbl := bal (w := N2) rtZ
            have k17 := E.d.box rtZ
            have n17 := E.nq
            replace E := E.later hbl
            have h67 : N2.heap.size ≠ c16 := by have := lt_of_block k16.h; omega
            replace k16 := k16.later hbl
            clear hbl
            generalize N2.alloc rtZ = N3 at *
            generalize N2.heap.size = c17 at *
            (try clear e0 e1 e2 e3 f0 f1 f2 f3)
            (try clear g0 g1 g2 g3 g4 g5 h0 h1 h2 h3 h4 h5)
            obtain ⟨⟨e0, e1, e2, e3⟩, f0, f1, f2, f3⟩ := hrz_c k16
            obtain ⟨⟨g0, g1, g2, g3, g4, g5⟩, h0, h1, h2, h3, h4, h5⟩ := rtz_c k17
            refine hK.out _ _ ?_ (fun hHeld => ?_)
            · ((try dsimp only); exact HS14.out _ _ _ _ _ E.d)
            clear hK K
            (try simp only [List.getElem_toArray, List.getElem_cons_succ, List.getElem_cons_zero, Act.put, List.setIfInBounds_toArray, List.set_cons_zero, List.set_cons_succ])
            refine wpAnyH_ready (rs := [18]) (by kernel_rfl) (by simp) ?_
            refine AllReadyH.cons (o := _) rfl (fun K hK => ?_) AllReadyH.nil
            go_simp
            generalize hch : ((((N3.setCell ⟨c16, 0, none⟩ (.int .u32 x'.first)).setCell ⟨c16, 1, none⟩ (.int .i64 (x'.room : Int))).setCell ⟨c16, 2, none⟩ (.slice q'.la q'.ln q'.lc)).setCell ⟨c16, 3, none⟩ (.slice q'.ba q'.bn q'.bc)) = N4
            obtain ⟨kk, hk⟩ := k16.put4z x' q' hch
            replace E := E.side k16 n16 (by decide) hk
            replace k17 := k17.side hk (by first | exact h67 | exact h67.symm)
            clear hk hch k16
            have k16 := kk
            clear kk
            (try clear e0 e1 e2 e3 f0 f1 f2 f3)
            (try clear g0 g1 g2 g3 g4 g5 h0 h1 h2 h3 h4 h5)
            obtain ⟨⟨g0, g1, g2, g3, g4, g5⟩, h0, h1, h2, h3, h4, h5⟩ := rtz_c k17
            refine hK.out _ _ ?_ (fun hHeld => ?_)
            · ((try dsimp only); exact HS14.out _ _ _ _ _ E.d)
            clear hK K
            (try simp only [List.getElem_toArray, List.getElem_cons_succ, List.getElem_cons_zero, Act.put, List.setIfInBounds_toArray, List.set_cons_zero, List.set_cons_succ])
            refine wpAnyH_ready (rs := [19]) (by kernel_rfl) (by simp) ?_
            refine AllReadyH.cons (o := _) rfl (fun K hK => ?_) AllReadyH.nil
            go_simp
            generalize hch : ((((((N4.setCell ⟨c17, 0, none⟩ (.int .i64 T.s.1)).setCell ⟨c17, 1, none⟩ (.int .i64 T.s.2)).setCell ⟨c17, 2, none⟩ (.int .i64 T.fresh)).setCell ⟨c17, 3, none⟩ (.bool (decide (0 < lenI T.dup)))).setCell ⟨c17, 4, none⟩ (.int .i64 T.dup.1)).setCell ⟨c17, 5, none⟩ (.int .i64 T.dup.2)) = N5
            obtain ⟨kk, hk⟩ := k17.put6z T hch
            replace E := E.side k17 n17 (by decide) hk
            replace k16 := k16.side hk (by first | exact h67 | exact h67.symm)
            clear hk hch k17
            have k17 := kk
            clear kk
            (try clear e0 e1 e2 e3 f0 f1 f2 f3)
            (try clear g0 g1 g2 g3 g4 g5 h0 h1 h2 h3 h4 h5)
            refine hK.out _ _ ?_ (fun hHeld => ?_)
            · ((try dsimp only); exact HS14.out _ _ _ _ _ E.d)
            clear hK K
            (try simp only [List.getElem_toArray, List.getElem_cons_succ, List.getElem_cons_zero, Act.put, List.setIfInBounds_toArray, List.set_cons_zero, List.set_cons_succ])
            refine wpAnyH_take (i := 20) (oi := _) (v := ?_) rfl (by kernel_rfl) (by kernel_rfl) (by kernel_rfl) (fun _ _ _ h => h) (Or.inl ⟨by kernel_rfl, ?_⟩) (by assumption) ?_
            rotate_left
            · (first | (intro v hSw; (try dsimp only at hSw); go_simp; done) | (intro v hSw; (try dsimp only at hSw); go_simp; with_reducible rfl))
            (try simp only [List.getElem_toArray, List.getElem_cons_succ, List.getElem_cons_zero, Act.put, List.setIfInBounds_toArray, List.set_cons_zero, List.set_cons_succ])
            refine wpAnyH_done (by kernel_rfl) ?_ _
            refine NoPanic.normal ?_
            have HF := Lib.hid (And.intro E (And.intro k16 k17))
            clear E k16 k17 n16 n17 h67
            go_wp2_with fail
            go_meet
            exact ⟨_, _, _, _, rfl, rfl, rfl, HF⟩
          refine AllReadyH.cons (o := _) rfl (fun K hK => ?_) AllReadyH.nil
          go_simp
          have hbl := bal (w := N1) rtZ
          have k17 := D.box rtZ
          replace D := D.later hbl
          have h67 : N1.heap.size ≠ c16 := by have := lt_of_block k16.h; omega
          replace k16 := k16.later hbl
          clear hbl
          generalize N1.alloc rtZ = N2 at *
          generalize N1.heap.size = c17 at *
          refine hK.out _ _ ?_ (fun hHeld => ?_)
          · ((try dsimp only); exact HS14.out _ _ _ _ _ D)
          clear hK K
          (try simp only [List.getElem_toArray, List.getElem_cons_succ, List.getElem_cons_zero, Act.put, List.setIfInBounds_toArray, List.set_cons_zero, List.set_cons_succ])
          refine wpAnyH_ready (rs := [11]) (by kernel_rfl) (by simp) ?_
          refine AllReadyH.cons (o := _) rfl (fun K hK => ?_) AllReadyH.nil
          go_simp
          (with_reducible refine (HRD.out _ _ _ _ _ D).mono ?_)
          rintro e N3 ⟨q', b', rfl, E, hbl, hnq⟩
          have n16 := hnq _ (lt_of_block k16.h) k16.n
          replace k16 := k16.later hbl
          have n17 := hnq _ (lt_of_block k17.h) k17.n
          replace k17 := k17.later hbl
          clear D hbl hnq
          (try clear e0 e1 e2 e3 f0 f1 f2 f3)
          (try clear g0 g1 g2 g3 g4 g5 h0 h1 h2 h3 h4 h5)
          obtain ⟨⟨e0, e1, e2, e3⟩, f0, f1, f2, f3⟩ := hrz_c k16
          obtain ⟨⟨g0, g1, g2, g3, g4, g5⟩, h0, h1, h2, h3, h4, h5⟩ := rtz_c k17
          refine hK.out _ _ ?_ (fun hHeld => ?_)
          · ((try dsimp only); exact HS14.out _ _ _ _ _ E.d)
          clear hK K
          (try simp only [List.getElem_toArray, List.getElem_cons_succ, List.getElem_cons_zero, Act.put, List.setIfInBounds_toArray, List.set_cons_zero, List.set_cons_succ])
          refine wpAnyH_take (i := 12) (oi := _) (v := ?_) rfl (by kernel_rfl) (by kernel_rfl) (by kernel_rfl) (fun _ _ _ h => h) (Or.inl ⟨by kernel_rfl, ?_⟩) (by assumption) ?_
          rotate_left
          · (first | (intro v hSw; (try dsimp only at hSw); go_simp; done) | (intro v hSw; (try dsimp only at hSw); go_simp; with_reducible rfl))
          (try simp only [List.getElem_toArray, List.getElem_cons_succ, List.getElem_cons_zero, Act.put, List.setIfInBounds_toArray, List.set_cons_zero, List.set_cons_succ])
          refine wpAnyH_take (i := 13) (oi := _) (v := ?_) rfl (by kernel_rfl) (by kernel_rfl) (by kernel_rfl) (fun _ _ _ h => h) (Or.inl ⟨by kernel_rfl, ?_⟩) (by assumption) ?_
          rotate_left
          · (first | (intro v hSw; (try dsimp only at hSw); go_simp; done) | (intro v hSw; (try dsimp only at hSw); go_simp; with_reducible rfl))
          (try simp only [List.getElem_toArray, List.getElem_cons_succ, List.getElem_cons_zero, Act.put, List.setIfInBounds_toArray, List.set_cons_zero, List.set_cons_succ])
          refine wpAnyH_take (i := 14) (oi := _) (v := ?_) rfl (by kernel_rfl) (by kernel_rfl) (by kernel_rfl) (fun _ _ _ h => h) (Or.inl ⟨by kernel_rfl, ?_⟩) (by assumption) ?_
          rotate_left
          · (first | (intro v hSw; (try dsimp only at hSw); go_simp; done) | (intro v hSw; (try dsimp only at hSw); go_simp; with_reducible rfl))
          (try simp only [List.getElem_toArray, List.getElem_cons_succ, List.getElem_cons_zero, Act.put, List.setIfInBounds_toArray, List.set_cons_zero, List.set_cons_succ])
          refine wpAnyH_take (i := 15) (oi := _) (v := ?_) rfl (by kernel_rfl) (by kernel_rfl) (by kernel_rfl) (fun _ _ _ h => h) (Or.inl ⟨by kernel_rfl, ?_⟩) (by assumption) ?_
          rotate_left
          · (first | (intro v hSw; (try dsimp only at hSw); go_simp; done) | (intro v hSw; (try dsimp only at hSw); go_simp; with_reducible rfl))
          (try simp only [List.getElem_toArray, List.getElem_cons_succ, List.getElem_cons_zero, Act.put, List.setIfInBounds_toArray, List.set_cons_zero, List.set_cons_succ])
          refine wpAnyH_ready (rs := [18]) (by kernel_rfl) (by simp) ?_
          refine AllReadyH.cons (o := _) rfl (fun K hK => ?_) AllReadyH.nil
          go_simp
          generalize hch : ((((N3.setCell ⟨c16, 0, none⟩ (.int .u32 x'.first)).setCell ⟨c16, 1, none⟩ (.int .i64 (x'.room : Int))).setCell ⟨c16, 2, none⟩ (.slice q'.la q'.ln q'.lc)).setCell ⟨c16, 3, none⟩ (.slice q'.ba q'.bn q'.bc)) = N4
          obtain ⟨kk, hk⟩ := k16.put4z x' q' hch
          replace E := E.side k16 n16 (by decide) hk
          replace k17 := k17.side hk (by first | exact h67 | exact h67.symm)
          clear hk hch k16
          have k16 := kk
          clear kk
          (try clear e0 e1 e2 e3 f0 f1 f2 f3)
          (try clear g0 g1 g2 g3 g4 g5 h0 h1 h2 h3 h4 h5)
          obtain ⟨⟨g0, g1, g2, g3, g4, g5⟩, h0, h1, h2, h3, h4, h5⟩ := rtz_c k17
          refine hK.out _ _ ?_ (fun hHeld => ?_)
          · ((try dsimp only); exact HS14.out _ _ _ _ _ E.d)
          clear hK K
          (try simp only [List.getElem_toArray, List.getElem_cons_succ, List.getElem_cons_zero, Act.put, List.setIfInBounds_toArray, List.set_cons_zero, List.set_cons_succ])
          refine wpAnyH_ready (rs := [19]) (by kernel_rfl) (by simp) ?_
          refine AllReadyH.cons (o := _) rfl (fun K hK => ?_) AllReadyH.nil
          go_simp
          generalize hch : ((((((N4.setCell ⟨c17, 0, none⟩ (.int .i64 T.s.1)).setCell ⟨c17, 1, none⟩ (.int .i64 T.s.2)).setCell ⟨c17, 2, none⟩ (.int .i64 T.fresh)).setCell ⟨c17, 3, none⟩ (.bool (decide (0 < lenI T.dup)))).setCell ⟨c17, 4, none⟩ (.int .i64 T.dup.1)).setCell ⟨c17, 5, none⟩ (.int .i64 T.dup.2)) = N5
          obtain ⟨kk, hk⟩ := k17.put6z T hch
          replace E := E.side k17 n17 (by decide) hk
          replace k16 := k16.side hk (by first | exact h67 | exact h67.symm)
          clear hk hch k17
          have k17 := kk
          clear kk
          (try clear e0 e1 e2 e3 f0 f1 f2 f3)
          (try clear g0 g1 g2 g3 g4 g5 h0 h1 h2 h3 h4 h5)
          refine hK.out _ _ ?_ (fun hHeld => ?_)
          · ((try dsimp only); exact HS14.out _ _ _ _ _ E.d)
          clear hK K
          (try simp only [List.getElem_toArray, List.getElem_cons_succ, List.getElem_cons_zero, Act.put, List.setIfInBounds_toArray, List.set_cons_zero, List.set_cons_succ])
          refine wpAnyH_take (i := 20) (oi := _) (v := ?_) rfl (by kernel_rfl) (by kernel_rfl) (by kernel_rfl) (fun _ _ _ h => h) (Or.inl ⟨by kernel_rfl, ?_⟩) (by assumption) ?_
          rotate_left
          · (first | (intro v hSw; (try dsimp only at hSw); go_simp; done) | (intro v hSw; (try dsimp only at hSw); go_simp; with_reducible rfl))
          (try simp only [List.getElem_toArray, List.getElem_cons_succ, List.getElem_cons_zero, Act.put, List.setIfInBounds_toArray, List.set_cons_zero, List.set_cons_succ])
          refine wpAnyH_done (by kernel_rfl) ?_ _
          refine NoPanic.normal ?_
          have HF := Lib.hid (And.intro E (And.intro k16 k17))
          clear E k16 k17 n16 n17 h67
          go_wp2_with fail
          go_meet
          exact ⟨_, _, _, _, rfl, rfl, rfl, HF⟩
        refine AllReadyH.cons (o := _) rfl (fun K hK => ?_) AllReadyH.nil
        go_simp
        have hbl := bal (w := C0) rtZ
        have k17 := D.box rtZ
        replace D := D.later hbl
        clear hbl
        generalize C0.alloc rtZ = N1 at *
        generalize C0.heap.size = c17 at *
        refine hK.out _ _ ?_ (fun hHeld => ?_)
        · ((try dsimp only); exact HS14.out _ _ _ _ _ D)
        clear hK K
        (try simp only [List.getElem_toArray, List.getElem_cons_succ, List.getElem_cons_zero, Act.put, List.setIfInBounds_toArray, List.set_cons_zero, List.set_cons_succ])
        refine wpAnyH_ready (rs := [11, 16]) (by kernel_rfl) (by simp) ?_
        refine AllReadyH.cons (o := _) rfl (fun K hK => ?_) ?_
        · go_simp
          (with_reducible refine (HRD.out _ _ _ _ _ D).mono ?_)
          rintro e N2 ⟨q', b', rfl, E, hbl, hnq⟩
          have n17 := hnq _ (lt_of_block k17.h) k17.n
          replace k17 := k17.later hbl
          clear D hbl hnq
          refine hK.out _ _ ?_ (fun hHeld => ?_)
          · ((try dsimp only); exact HS14.out _ _ _ _ _ E.d)
          clear hK K
          (try simp only [List.getElem_toArray, List.getElem_cons_succ, List.getElem_cons_zero, Act.put, List.setIfInBounds_toArray, List.set_cons_zero, List.set_cons_succ])
          refine wpAnyH_take (i := 12) (oi := _) (v := ?_) rfl (by kernel_rfl) (by kernel_rfl) (by kernel_rfl) (fun _ _ _ h => h) (Or.inl ⟨by kernel_rfl, ?_⟩) (by assumption) ?_
          rotate_left
          · (first | (intro v hSw; (try dsimp only at hSw); go_simp; done) | (intro v hSw; (try dsimp only at hSw); go_simp; with_reducible rfl))
          (try simp only [List.getElem_toArray, List.getElem_cons_succ, List.getElem_cons_zero, Act.put, List.setIfInBounds_toArray, List.set_cons_zero, List.set_cons_succ])
          refine wpAnyH_take (i := 13) (oi := _) (v := ?_) rfl (by kernel_rfl) (by kernel_rfl) (by kernel_rfl) (fun _ _ _ h => h) (Or.inl ⟨by kernel_rfl, ?_⟩) (by assumption) ?_
          rotate_left
          · (first | (intro v hSw; (try dsimp only at hSw); go_simp; done) | (intro v hSw; (try dsimp only at hSw); go_simp; with_reducible rfl))
          (try simp only [List.getElem_toArray, List.getElem_cons_succ, List.getElem_cons_zero, Act.put, List.setIfInBounds_toArray, List.set_cons_zero, List.set_cons_succ])
          refine wpAnyH_take (i := 14) (oi := _) (v := ?_) rfl (by kernel_rfl) (by kernel_rfl) (by kernel_rfl) (fun _ _ _ h => h) (Or.inl ⟨by kernel_rfl, ?_⟩) (by assumption) ?_
          rotate_left
          · (first | (intro v hSw; (try dsimp only at hSw); go_simp; done) | (intro v hSw; (try dsimp only at hSw); go_simp; with_reducible rfl))
          (try simp only [List.getElem_toArray, List.getElem_cons_succ, List.getElem_cons_zero, Act.put, List.setIfInBounds_toArray, List.set_cons_zero, List.set_cons_succ])
          refine wpAnyH_take (i := 15) (oi := _) (v := ?_) rfl (by kernel_rfl) (by kernel_rfl) (by kernel_rfl) (fun _ _ _ h => h) (Or.inl ⟨by kernel_rfl, ?_⟩) (by assumption) ?_
          rotate_left
          · (first | (intro v hSw; (try dsimp only at hSw); go_simp; done) | (intro v hSw; (try dsimp only at hSw); go_simp; with_reducible rfl))
          (try simp only [List.getElem_toArray, List.getElem_cons_succ, List.getElem_cons_zero, Act.put, List.setIfInBounds_toArray, List.set_cons_zero, List.set_cons_succ])
          refine wpAnyH_ready (rs := [16]) (by kernel_rfl) (by simp) ?_
          refine AllReadyH.cons (o := _) rfl (fun K hK => ?_) AllReadyH.nil
          go_simp
          have hbl := bal (w := N2) hrZ
          have k16 := E.d.box hrZ
          have n16 := E.nq
          replace E := E.later hbl
          have h67 : N2.heap.size ≠ c17 := by have := lt_of_block k17.h; omega
          replace k17 := k17.later hbl
          clear hbl
          generalize N2.alloc hrZ = N3 at *
          generalize N2.heap.size = c16 at *
          (try clear e0 e1 e2 e3 f0 f1 f2 f3)
          (try clear g0 g1 g2 g3 g4 g5 h0 h1 h2 h3 h4 h5)
          obtain ⟨⟨e0, e1, e2, e3⟩, f0, f1, f2, f3⟩ := hrz_c k16
          obtain ⟨⟨g0, g1, g2, g3, g4, g5⟩, h0, h1, h2, h3, h4, h5⟩ := rtz_c k17
          refine hK.out _ _ ?_ (fun hHeld => ?_)
          · ((try dsimp only); exact HS14.out _ _ _ _ _ E.d)
          clear hK K
          (try simp only [List.getElem_toArray, List.getElem_cons_succ, List.getElem_cons_zero, Act.put, List.setIfInBounds_toArray, List.set_cons_zero, List.set_cons_succ])
          refine wpAnyH_ready (rs := [18]) (by kernel_rfl) (by simp) ?_
          refine AllReadyH.cons (o := _) rfl (fun K hK => ?_) AllReadyH.nil
          go_simp
          generalize hch : ((((N3.setCell ⟨c16, 0, none⟩ (.int .u32 x'.first)).setCell ⟨c16, 1, none⟩ (.int .i64 (x'.room : Int))).setCell ⟨c16, 2, none⟩ (.slice q'.la q'.ln q'.lc)).setCell ⟨c16, 3, none⟩ (.slice q'.ba q'.bn q'.bc)) = N4
          obtain ⟨kk, hk⟩ := k16.put4z x' q' hch
          replace E := E.side k16 n16 (by decide) hk
          replace k17 := k17.side hk (by first | exact h67 | exact h67.symm)
          clear hk hch k16
          have k16 := kk
          clear kk
          (try clear e0 e1 e2 e3 f0 f1 f2 f3)
          (try clear g0 g1 g2 g3 g4 g5 h0 h1 h2 h3 h4 h5)
          obtain ⟨⟨g0, g1, g2, g3, g4, g5⟩, h0, h1, h2, h3, h4, h5⟩ := rtz_c k17
          refine hK.out _ _ ?_ (fun hHeld => ?_)
          · ((try dsimp only); exact HS14.out _ _ _ _ _ E.d)
          clear hK K
          (try simp only [List.getElem_toArray, List.getElem_cons_succ, List.getElem_cons_zero, Act.put, List.setIfInBounds_toArray, List.set_cons_zero, List.set_cons_succ])
          refine wpAnyH_ready (rs := [19]) (by kernel_rfl) (by simp) ?_
          refine AllReadyH.cons (o := _) rfl (fun K hK => ?_) AllReadyH.nil
          go_simp
          generalize hch : ((((((N4.setCell ⟨c17, 0, none⟩ (.int .i64 T.s.1)).setCell ⟨c17, 1, none⟩ (.int .i64 T.s.2)).setCell ⟨c17, 2, none⟩ (.int .i64 T.fresh)).setCell ⟨c17, 3, none⟩ (.bool (decide (0 < lenI T.dup)))).setCell ⟨c17, 4, none⟩ (.int .i64 T.dup.1)).setCell ⟨c17, 5, none⟩ (.int .i64 T.dup.2)) = N5
          obtain ⟨kk, hk⟩ := k17.put6z T hch
          replace E := E.side k17 n17 (by decide) hk
          replace k16 := k16.side hk (by first | exact h67 | exact h67.symm)
          clear hk hch k17
          have k17 := kk
          clear kk
          (try clear e0 e1 e2 e3 f0 f1 f2 f3)
          (try clear g0 g1 g2 g3 g4 g5 h0 h1 h2 h3 h4 h5)
          refine hK.out _ _ ?_ (fun hHeld => ?_)
          · ((try dsimp only); exact HS14.out _ _ _ _ _ E.d)
          clear hK K
          (try simp only [List.getElem_toArray, List.getElem_cons_succ, List.getElem_cons_zero, Act.put, List.setIfInBounds_toArray, List.set_cons_zero, List.set_cons_succ])
          refine wpAnyH_take (i := 20) (oi := _) (v := ?_) rfl (by kernel_rfl) (by kernel_rfl) (by kernel_rfl) (fun _ _ _ h => h) (Or.inl ⟨by kernel_rfl, ?_⟩) (by assumption) ?_
          rotate_left
          · (first | (intro v hSw; (try dsimp only at hSw); go_simp; done) | (intro v hSw; (try dsimp only at hSw); go_simp; with_reducible rfl))
          (try simp only [List.getElem_toArray, List.getElem_cons_succ, List.getElem_cons_zero, Act.put, List.setIfInBounds_toArray, List.set_cons_zero, List.set_cons_succ])
          refine wpAnyH_done (by kernel_rfl) ?_ _
          refine NoPanic.normal ?_
          have HF := Lib.hid (And.intro E (And.intro k16 k17))
          clear E k16 k17 n16 n17 h67
          go_wp2_with fail
          go_meet
          exact ⟨_, _, _, _, rfl, rfl, rfl, HF⟩
        refine AllReadyH.cons (o := _) rfl (fun K hK => ?_) AllReadyH.nil
        go_simp
        have hbl := bal (w := N1) hrZ
        have k16 := D.box hrZ
        replace D := D.later hbl
        have h67 : N1.heap.size ≠ c17 := by have := lt_of_block k17.h; omega
        replace k17 := k17.later hbl
        clear hbl
        generalize N1.alloc hrZ = N2 at *
        generalize N1.heap.size = c16 at *
        refine hK.out _ _ ?_ (fun hHeld => ?_)
        · ((try dsimp only); exact HS14.out _ _ _ _ _ D)
        clear hK K
        (try simp only [List.getElem_toArray, List.getElem_cons_succ, List.getElem_cons_zero, Act.put, List.setIfInBounds_toArray, List.set_cons_zero, List.set_cons_succ])
        refine wpAnyH_ready (rs := [11]) (by kernel_rfl) (by simp) ?_
        refine AllReadyH.cons (o := _) rfl (fun K hK => ?_) AllReadyH.nil
        go_simp
        (with_reducible refine (HRD.out _ _ _ _ _ D).mono ?_)
        rintro e N3 ⟨q', b', rfl, E, hbl, hnq⟩
        have n16 := hnq _ (lt_of_block k16.h) k16.n
        replace k16 := k16.later hbl
        have n17 := hnq _ (lt_of_block k17.h) k17.n
        replace k17 := k17.later hbl
        clear D hbl hnq
        (try clear e0 e1 e2 e3 f0 f1 f2 f3)
        (try clear g0 g1 g2 g3 g4 g5 h0 h1 h2 h3 h4 h5)
        obtain ⟨⟨e0, e1, e2, e3⟩, f0, f1, f2, f3⟩ := hrz_c k16
        obtain ⟨⟨g0, g1, g2, g3, g4, g5⟩, h0, h1, h2, h3, h4, h5⟩ := rtz_c k17
        refine hK.out _ _ ?_ (fun hHeld => ?_)
        · ((try dsimp only); exact HS14.out _ _ _ _ _ E.d)
        clear hK K
        (try simp only [List.getElem_toArray, List.getElem_cons_succ, List.getElem_cons_zero, Act.put, List.setIfInBounds_toArray, List.set_cons_zero, List.set_cons_succ])
        refine wpAnyH_take (i := 12) (oi := _) (v := ?_) rfl (by kernel_rfl) (by kernel_rfl) (by kernel_rfl) (fun _ _ _ h => h) (Or.inl ⟨by kernel_rfl, ?_⟩) (by assumption) ?_
        rotate_left
        · (first | (intro v hSw; (try dsimp only at hSw); go_simp; done) | (intro v hSw; (try dsimp only at hSw); go_simp; with_reducible rfl))
        (try simp only [List.getElem_toArray, List.getElem_cons_succ, List.getElem_cons_zero, Act.put, List.setIfInBounds_toArray, List.set_cons_zero, List.set_cons_succ])
        refine wpAnyH_take (i := 13) (oi := _) (v := ?_) rfl (by kernel_rfl) (by kernel_rfl) (by kernel_rfl) (fun _ _ _ h => h) (Or.inl ⟨by kernel_rfl, ?_⟩) (by assumption) ?_
        rotate_left
        · (first | (intro v hSw; (try dsimp only at hSw); go_simp; done) | (intro v hSw; (try dsimp only at hSw); go_simp; with_reducible rfl))
        (try simp only [List.getElem_toArray, List.getElem_cons_succ, List.getElem_cons_zero, Act.put, List.setIfInBounds_toArray, List.set_cons_zero, List.set_cons_succ])
        refine wpAnyH_take (i := 14) (oi := _) (v := ?_) rfl (by kernel_rfl) (by kernel_rfl) (by kernel_rfl) (fun _ _ _ h => h) (Or.inl ⟨by kernel_rfl, ?_⟩) (by assumption) ?_
        rotate_left
        · (first | (intro v hSw; (try dsimp only at hSw); go_simp; done) | (intro v hSw; (try dsimp only at hSw); go_simp; with_reducible rfl))
        (try simp only [List.getElem_toArray, List.getElem_cons_succ, List.getElem_cons_zero, Act.put, List.setIfInBounds_toArray, List.set_cons_zero, List.set_cons_succ])
        refine wpAnyH_take (i := 15) (oi := _) (v := ?_) rfl (by kernel_rfl) (by kernel_rfl) (by kernel_rfl) (fun _ _ _ h => h) (Or.inl ⟨by kernel_rfl, ?_⟩) (by assumption) ?_
        rotate_left
        · (first | (intro v hSw; (try dsimp only at hSw); go_simp; done) | (intro v hSw; (try dsimp only at hSw); go_simp; with_reducible rfl))
        (try simp only [List.getElem_toArray, List.getElem_cons_succ, List.getElem_cons_zero, Act.put, List.setIfInBounds_toArray, List.set_cons_zero, List.set_cons_succ])
        refine wpAnyH_ready (rs := [18]) (by kernel_rfl) (by simp) ?_
        refine AllReadyH.cons (o := _) rfl (fun K hK => ?_) AllReadyH.nil
        go_simp
        generalize hch : ((((N3.setCell ⟨c16, 0, none⟩ (.int .u32 x'.first)).setCell ⟨c16, 1, none⟩ (.int .i64 (x'.room : Int))).setCell ⟨c16, 2, none⟩ (.slice q'.la q'.ln q'.lc)).setCell ⟨c16, 3, none⟩ (.slice q'.ba q'.bn q'.bc)) = N4
        obtain ⟨kk, hk⟩ := k16.put4z x' q' hch
        replace E := E.side k16 n16 (by decide) hk
        replace k17 := k17.side hk (by first | exact h67 | exact h67.symm)
        clear hk hch k16
        have k16 := kk
        clear kk
        (try clear e0 e1 e2 e3 f0 f1 f2 f3)
        (try clear g0 g1 g2 g3 g4 g5 h0 h1 h2 h3 h4 h5)
        obtain ⟨⟨g0, g1, g2, g3, g4, g5⟩, h0, h1, h2, h3, h4, h5⟩ := rtz_c k17
        refine hK.out _ _ ?_ (fun hHeld => ?_)
        · ((try dsimp only); exact HS14.out _ _ _ _ _ E.d)
        clear hK K
        (try simp only [List.getElem_toArray, List.getElem_cons_succ, List.getElem_cons_zero, Act.put, List.setIfInBounds_toArray, List.set_cons_zero, List.set_cons_succ])
        refine wpAnyH_ready (rs := [19]) (by kernel_rfl) (by simp) ?_
        refine AllReadyH.cons (o := _) rfl (fun K hK => ?_) AllReadyH.nil
        go_simp
        generalize hch : ((((((N4.setCell ⟨c17, 0, none⟩ (.int .i64 T.s.1)).setCell ⟨c17, 1, none⟩ (.int .i64 T.s.2)).setCell ⟨c17, 2, none⟩ (.int .i64 T.fresh)).setCell ⟨c17, 3, none⟩ (.bool (decide (0 < lenI T.dup)))).setCell ⟨c17, 4, none⟩ (.int .i64 T.dup.1)).setCell ⟨c17, 5, none⟩ (.int .i64 T.dup.2)) = N5
        obtain ⟨kk, hk⟩ := k17.put6z T hch
        replace E := E.side k17 n17 (by decide) hk
        replace k16 := k16.side hk (by first | exact h67 | exact h67.symm)
        clear hk hch k17
        have k17 := kk
        clear kk
        (try clear e0 e1 e2 e3 f0 f1 f2 f3)
        (try clear g0 g1 g2 g3 g4 g5 h0 h1 h2 h3 h4 h5)
        refine hK.out _ _ ?_ (fun hHeld => ?_)
        · ((try dsimp only); exact HS14.out _ _ _ _ _ E.d)
        clear hK K
        (try simp only [List.getElem_toArray, List.getElem_cons_succ, List.getElem_cons_zero, Act.put, List.setIfInBounds_toArray, List.set_cons_zero, List.set_cons_succ])
        refine wpAnyH_take (i := 20) (oi := _) (v := ?_) rfl (by kernel_rfl) (by kernel_rfl) (by kernel_rfl) (fun _ _ _ h => h) (Or.inl ⟨by kernel_rfl, ?_⟩) (by assumption) ?_
        rotate_left
        · (first | (intro v hSw; (try dsimp only at hSw); go_simp; done) | (intro v hSw; (try dsimp only at hSw); go_simp; with_reducible rfl))
        (try simp only [List.getElem_toArray, List.getElem_cons_succ, List.getElem_cons_zero, Act.put, List.setIfInBounds_toArray, List.set_cons_zero, List.set_cons_succ])
        refine wpAnyH_done (by kernel_rfl) ?_ _
        refine NoPanic.normal ?_
        have HF := Lib.hid (And.intro E (And.intro k16 k17))
        clear E k16 k17 n16 n17 h67
        go_wp2_with fail
        go_meet
        exact ⟨_, _, _, _, rfl, rfl, rfl, HF⟩
        -- R14 END
      case rest =>
      obtain ⟨c16, c17, q', b', rfl, rfl, rfl, HS2⟩ := hcut
      generalize wc = V2 at *
      clear HS HS14 HRD HT HCC
      obtain ⟨E, k16, k17⟩ := HS2.out
      obtain ⟨y0, y1, y2, y3⟩ := h4_of k16.h
      obtain ⟨x0, x1, x2, x3⟩ := h4_of E.d.p.hx
      have g0 := fofr E.d.p.hx 0
      have g1 := fofr E.d.p.hx 1
      have g2 := fofr E.d.p.hx 2
      have g3 := fofr E.d.p.hx 3
      have hoy : Ok x' := HH.out.2.1.1
      have HPU := Lib.hid (fun Z hZ => round_put (w := w) E k17 hoy (Z := Z) hZ)
      clear E k16 k17 HS2 hoy
      go_upto_region 16 with fail
      generalize hch : ((((V2.setCell ⟨X, 0, none⟩ (.int .u32 x'.first)).setCell ⟨X, 1, none⟩ (.int .i64 (x'.room : Int))).setCell ⟨X, 2, none⟩ (.slice q'.la q'.ln q'.lc)).setCell ⟨X, 3, none⟩ (.slice q'.ba q'.bn q'.bc)) = V3
      have HP3 := Lib.hid (HPU.out V3 hch)
      clear HPU hch y0 y1 y2 y3 x0 x1 x2 x3 g0 g1 g2 g3
      obtain ⟨P3, t3, u3, ob3⟩ := HP3.out
      obtain ⟨t0, t1, t2, t4, t5, t6⟩ := td_cs t3
      obtain ⟨u0, u1, u2, u4, u5, u6⟩ := rt_cs u3
      have hx3 := h4_of P3.hx
      obtain ⟨x0, x1, x2, x3⟩ := hx3
      have HEQ2 := Lib.hid (HEQ.out V3 q' b' m' P3)
      unfold EqP at HEQ2
      have HBY := Lib.hid (fun W (hb : Below V3.heap.size V3 W) => hbytes_any (P3.later hb).s.h (by have := HH.out.2.1.2; unfold Sz at this; omega))
      unfold RetI at HBY
      have eqg : Try.prog.eqGuardType Try.prog.depth 36 = false := by kernel_rfl
      have HP4 := Lib.hid (fun W (hb : Below V3.heap.size V3 W) => show PI w B X o first r (k + 1) (bytesL x'.l) W from
        ⟨m', x', q', b', rfl, P3.later hb, HH.out.2.1.2, (hb.block _ (lt_of_block ob3)).trans ob3⟩)
      clear P3 t3 u3 ob3 HEQ HP3
      go_wp2_with (first
        | (go_at_call 11; go_must (with_reducible refine HEQ2.out.mono ?_); rintro e w7 ⟨rfl, hb7⟩)
        | (go_at_call 12; go_must (with_reducible refine (HBY.out _ hb7).mono ?_); rintro e w8 ⟨rfl, hb8⟩; replace hb7 := hb7.trans (hb8.mono hb7.size)))
      go_roundw
      case measure => simp [intOf]; omega
      case rel => exact ⟨k + 1, _, rfl, by first | rfl | simp, by omega, by omega, HP4.out _ hb7⟩
    case neg =>
      obtain ⟨m, x, q, b, rfl, P, hz, hob⟩ := P
      have hzb := sz_bd hz (by omega)
      have hst := sz_step P.oy hz (by omega) o.num o.b.2.2.2
      have hzb2 := sz_bd hst.2 (by omega)
      have HCL := Lib.hid (clone_any P.s.h hzb.1 (by omega))
      unfold RetCl at HCL
      have HTK := Lib.hid (fun W C mC (hb : Below wr.heap.size wr W) (hc : HdAt W C mC x) (hn : ∀ c ∈ C :: parts mC, wr.heap.size ≤ c) =>
        (take_any hc hzb.1 hzb.2 o.num HOO.out.1 (HOO.out.2.later (P.s.below.trans (hb.mono P.s.below.size))) (fun z hz' h0 e => by have := hn _ e; have := P.s.below.size; have := sla_old HOO.out.2 z hz' h0; omega)).mono
          (fun e w' r => show e = .returned (.tuple #[.agg (tdC (td x o.num o.b.2.2.2.length)), .int .i64 (pl x o.num o.b.2.2.2.length).1]) ∧ ∃ m', HdAt w' C m' (tk x o.num o.b.2.2.2) ∧ Below wr.heap.size wr w' from by
            obtain ⟨r1, m', r2, r3, r4⟩ := r
            exact ⟨r1, m', r2, hb.trans (r3.below hn hb.size)⟩))
      have HRT := Lib.hid (fun W (hb : Below wr.heap.size wr W) => ps_rtake (P.later hb) hzb HOO.out)
      have HE1 := Lib.hid (fun W C mC q' b' (hc : HdAt W C mC (tk x o.num o.b.2.2.2)) (ha : RA W (tk x o.num o.b.2.2.2) q' b') (hb : RB b' (tk x o.num o.b.2.2.2)) => equal_any hc ha hb hzb2.1 hzb2.2)
      have HE2 := Lib.hid (fun W (hb : Below wr.heap.size wr W) => ps_equal (P.later hb) hzb)
      unfold EqP at HE1 HE2
      have HXC := Lib.hid (fun W (hb : Below wr.heap.size wr W) => And.intro (h4_of (P.later hb).hx) (op_cs ((hb.block _ (lt_of_block hob)).trans hob)))
      have HB := Lib.hid P.s.below
      have hb0 := Below.refl wr.heap.size wr
      obtain ⟨⟨x0, x1, x2, x3⟩, o0, o1⟩ := HXC.out _ hb0
      clear P hz hzb hst hzb2 hob HOO HC
      have hway : k < ln ∨ ¬ k < ln := Nat.lt_or_ge k ln |>.imp id (fun h => by omega)
      generalize tk x o.num o.b.2.2.2 = y at *
      generalize td x o.num o.b.2.2.2.length = T at *
      generalize (pl x o.num o.b.2.2.2.length).1 = er at *
      by_cases hwl : k < ln
      all_goals
        go_wp2_with (first
          | (go_at_call 13; go_must (with_reducible refine HCL.out.mono ?_); rintro e w4 ⟨C, mC, rfl, hc4, hb4, hn4⟩; obtain ⟨⟨x0, x1, x2, x3⟩, o0, o1⟩ := HXC.out _ hb4)
          | (go_at_call 9; go_must (with_reducible refine (HTK.out _ C mC hb4 hc4 hn4).mono ?_); rintro e w5 ⟨rfl, mC', hc5, hb5⟩; obtain ⟨⟨x0, x1, x2, x3⟩, o0, o1⟩ := HXC.out _ hb5)
          | (go_at_call 10; go_must (with_reducible refine (HRT.out _ hb5).mono ?_); rintro e w6 ⟨q', b', rfl, hp6, ha6, hr6, _, hb6⟩; have HD6 := Lib.hid (And.intro (hc5.later hb6) (And.intro ha6 (hb5.trans (hb6.mono hb5.size)))); clear hc5 hp6 ha6 hb6; have hbA := (bal (w := w6) (hrO y q')).trans ((bal (w := w6.alloc (hrO y q')) (rtO T)).mono (by simp)); have hbT := HD6.out.2.2.trans (hbA.mono HD6.out.2.2.size))
          | (go_at_call 11; first
            | ((with_reducible refine (HE1.out _ C mC' q' b' (HD6.out.1.later hbA) (HD6.out.2.1.later hbA) hr6).mono ?_); rintro e w7 ⟨rfl, hb7⟩; replace hb7 := hbT.trans (hb7.mono hbT.size); obtain ⟨⟨x0, x1, x2, x3⟩, o0, o1⟩ := HXC.out _ hb7)
            | ((with_reducible refine (HE2.out _ hb7).mono ?_); rintro e w8 ⟨rfl, hb8⟩; replace hb8 := HB.out.trans ((hb7.trans (hb8.mono hb7.size)).mono HB.out.size)))
          | (go_at_call 7; go_must (with_reducible refine (known_v hb8).mono ?_); rintro e w9 ⟨rfl, hb9⟩))
      all_goals
        go_ret
        exact ⟨rfl, hb9⟩
end Go.Proofs.Ytekddgmmfgpehaa.hd
