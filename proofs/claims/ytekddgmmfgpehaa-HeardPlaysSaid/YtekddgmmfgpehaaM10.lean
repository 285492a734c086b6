/-
  Several texts in one: HrdZ OctW OctX Ref2 HrdE HrdJ HrdL HrdS HrdKp HrdCt HrdPo
-/
import Derived.Test.YtekddgmmfgpehaaProg
import Derived.Test.YtekddgmmfgpehaaM9
/-!   Layer 23's reference: Take, what is taken.
-/
namespace Go.Proofs.Ytekddgmmfgpehaa.hd
open Go.RowKit Go.Shelf aid mem rng sp rn
attribute [local go_sem ↓] Go.wp_at_zero Go.wp_at_succ
set_option linter.unusedVariables false
set_option linter.unusedSimpArgs false

abbrev tC (s : Sp) (fr : Int) (bo : Bool) (d : Sp) : Array Value := #[.int .i64 s.1, .int .i64 s.2, .int .i64 fr, .bool bo, .int .i64 d.1, .int .i64 d.2]
abbrev tO (s : Sp) (fr : Int) (bo : Bool) (d : Sp) : Obj := .cells (tC s fr bo d) 41
/-- the boxes of Take, a span's, what is told -/
structure RW (w : World) (x : Hd) (q : Rl) (s : Sp) (bs bt : Nat) (fr : Int) (bo : Bool) (d : Sp) (W : World) : Prop where
  r : R3 w x q W
  sp : SpAt W bs s
  t : W.heap[bt]? = some (tO s fr bo d)
  far : w.heap.size + 2 < bs ∧ w.heap.size + 2 < bt
abbrev T6c (bt : Nat) (s : Sp) (fr : Int) (bo : Bool) (d : Sp) (W : World) : Prop := (W.cell? ⟨bt, 0, none⟩ = some (.int .i64 s.1) ∧ W.cell? ⟨bt, 1, none⟩ = some (.int .i64 s.2) ∧ W.cell? ⟨bt, 2, none⟩ = some (.int .i64 fr) ∧ W.cell? ⟨bt, 3, none⟩ = some (.bool bo) ∧ W.cell? ⟨bt, 4, none⟩ = some (.int .i64 d.1) ∧ W.cell? ⟨bt, 5, none⟩ = some (.int .i64 d.2)) ∧
  W.frozen? ⟨bt, 2, none⟩ = false ∧ W.frozen? ⟨bt, 3, none⟩ = false ∧ W.frozen? ⟨bt, 4, none⟩ = false ∧ W.frozen? ⟨bt, 5, none⟩ = false
theorem t6c_of {W : World} {bt : Nat} {s : Sp} {fr : Int} {bo : Bool} {d : Sp} (h : W.heap[bt]? = some (tO s fr bo d)) : T6c bt s fr bo d W :=
  ⟨⟨cofr h 0 _ rfl, cofr h 1 _ rfl, cofr h 2 _ rfl, cofr h 3 _ rfl, cofr h 4 _ rfl, cofr h 5 _ rfl⟩, fofr h 2, fofr h 3, fofr h 4, fofr h 5⟩
section
variable {w W W' : World} {x : Hd} {q : Rl} {s : Sp} {bs bt : Nat} {fr : Int} {bo : Bool} {d : Sp} (h : RW w x q s bs bt fr bo d W)
include h
theorem RW.later (hb : Below W.heap.size W W') : RW w x q s bs bt fr bo d W' := ⟨h.r.later hb, h.sp.later hb, (hb.block _ (lt_of_block h.t)).trans h.t, h.far⟩
theorem RW.ne : bs ≠ bt := typ_ne h.sp h.t (by decide)
/-- bytes of one's own are written -/
theorem RW.u8 {S : List Nat} (hk : Kept S W W') (hS : ∀ b ∈ S, w.heap.size ≤ b ∧ ∃ cs, W.heap[b]? = some (.cells cs 5 (0, 0))) : RW w x q s bs bt fr bo d W' := by
  have hn : ∀ {b : Nat} {cs : Array Value} {T : TypeId}, W.heap[b]? = some (.cells cs T (0, 0)) → T ≠ 5 → b ∉ S := fun hb hT e => by
    obtain ⟨_, ds, q⟩ := hS _ e
    exact typ_ne hb q hT rfl
  exact ⟨⟨hk.heap (hn h.r.b0 (by decide)) h.r.b0, hk.heap (hn h.r.rh (by decide)) h.r.rh, hk.heap (hn h.r.rt (by decide)) h.r.rt, h.r.below.trans (hk.below (fun b hb => (hS b hb).1) h.r.below.size)⟩, hk.heap (hn h.sp (by decide)) h.sp, hk.heap (hn h.t (by decide)) h.t, h.far⟩
/-- what is told is written -/
theorem RW.tell {fr' : Int} {bo' : Bool} {d' : Sp} (hk : Kept [bt] W W') (ht : W'.heap[bt]? = some (tO s fr' bo' d')) : RW w x q s bs bt fr' bo' d' W' :=
  have hf := h.far
  ⟨⟨hk.heap (by simp; omega) h.r.b0, hk.heap (by simp; omega) h.r.rh, hk.heap (by simp; omega) h.r.rt, h.r.below.trans (hk.below (by simp; omega) h.r.below.size)⟩, hk.heap (by simpa using h.ne) h.sp, ht, hf⟩
theorem RW.dup (d' : Sp) : RW w x q s bs bt fr bo d' ((W.setCell ⟨bt, 4, none⟩ (.int .i64 d'.1)).setCell ⟨bt, 5, none⟩ (.int .i64 d'.2)) :=
  h.tell (((Kept.refl [bt] W).setCell (.inl (by simp)) _).setCell (.inl (by simp)) _) (setq (setq h.t _ rfl) _ rfl)
theorem RW.is (bo' : Bool) : RW w x q s bs bt fr bo' d (W.setCell ⟨bt, 3, none⟩ (.bool bo')) := h.tell ((Kept.refl [bt] W).setCell (.inl (by simp)) _) (setq h.t _ rfl)
theorem RW.fresh (fr' : Int) : RW w x q s bs bt fr' bo d (W.setCell ⟨bt, 2, none⟩ (.int .i64 fr')) := h.tell ((Kept.refl [bt] W).setCell (.inl (by simp)) _) (setq h.t _ rfl)
/-- a list of the receiver is written -/
theorem RW.put {q' : Rl} {x' : Hd} (i : Nat) (u : Value) (hz : (hrC x q).setIfInBounds i u = hrC x' q') : RW w x' q' s bs bt fr bo d (W.setCell ⟨w.heap.size, i, none⟩ u) := by
  have hk : Kept [w.heap.size] W (W.setCell ⟨w.heap.size, i, none⟩ u) := (Kept.refl [w.heap.size] W).setCell (.inl (by simp)) u
  have hf := h.far
  exact ⟨⟨setq h.r.b0 u hz, hk.heap (by simp) h.r.rh, hk.heap (by simp) h.r.rt, h.r.below.trans (hk.below (by simp) h.r.below.size)⟩, hk.heap (by simp; omega) h.sp, hk.heap (by simp; omega) h.t, hf⟩
end
abbrev S15 (w : World) (bs : Nat) (x : Hd) (q : Rl) (s : Sp) (W : World) : Prop := W.cell? ⟨w.heap.size, 2, none⟩ = some (.slice q.la q.ln q.lc) ∧ W.cell? ⟨bs, 0, none⟩ = some (.int .i64 s.1) ∧ W.cell? ⟨bs, 1, none⟩ = some (.int .i64 s.2)
theorem RW.s15 {w W : World} {x : Hd} {q : Rl} {s : Sp} {bs bt : Nat} {fr : Int} {bo : Bool} {d : Sp} (h : RW w x q s bs bt fr bo d W) : S15 w bs x q s W := ⟨(h4_of h.r.b0).2.2.1, h.sp.c0, h.sp.c1⟩
theorem inB_len (l : List Sp) (o : Int) : inB l o = true ↔ ¬ lenI (runL l o) = 0 := by
  have := (lenI_bd (runL l o)).1
  unfold inB
  rw [decide_eq_true_iff]
  omega
set_option maxRecDepth 100000 in
set_option maxHeartbeats 8000000 in
theorem rtake_ok {w : World} {x : Hd} {q : Rl} {b : List Int} (h : RA w x q b) (ho : Ok x) (hb : RB b x) (hl : x.l.length ≤ 4000) (hz : nx x.l ≤ 1000000000) (num : Int) (hnum : 0 ≤ num ∧ num ≤ 4294967295) {ba : Option Addr} {n bcap : Nat} {p : List Int} (hp : SlA .u8 w ba n bcap p) (hpz : (pl x num n).1 = 0) :
    Calls Try.prog 10 #[.agg (hrC x q), .int .u32 num, .slice ba n bcap] w (RtP q (tk x num p) (td x num p.length) 0 w) := by
  have hpl := hp.len
  obtain ⟨q1, q2, q3, q4, q5, q6⟩ := pl_ok ho hpz hz
  have HR := Lib.hid (r3_new w x q)
  have hf := ho.f
  have hx := nx_spec ho.l
  have hrm := ho.r
  have hm := sq.m32_bd (num - x.first)
  -- what the place says
  have hpl2 : (sq.unw (nx x.l) (sq.m32 (num - x.first))).2 = true ∧ (sq.unw (nx x.l) (sq.m32 (num - x.first))).1 = (pl x num n).2.1 := by
    unfold pl at hpz ⊢
    rw [if_neg (by omega), if_neg (by omega)] at hpz ⊢
    by_cases hu : (sq.unw (nx x.l) (sq.m32 (num - x.first))).2 = true
    · rw [if_pos hu] at hpz ⊢
      split at hpz
      · exact absurd hpz (by decide)
      · rename_i hh
        rw [if_neg hh]
        exact ⟨hu, rfl⟩
    · rw [if_neg hu] at hpz
      exact absurd hpz (by decide)
  have HN := Lib.hid (fun X (k : R3 w x q X) => rnx_any (q := q) (x := x) (h.l.later k.below))
  have HM := Lib.hid (fun X => sq.mod_any (num - x.first) X (by omega))
  have HU := Lib.hid (fun X => sq.runwrap_any (nx x.l) (sq.m32 (num - x.first)) X (by have := hx.1; have := hx.2.1; omega) (by omega))
  rw [runw_unw, if_pos hpl2.1, hpl2.2] at HU
  unfold RetI at HN
  obtain ⟨s, hs⟩ : ∃ s, (pl x num n).2 = s := ⟨_, rfl⟩
  rw [hs] at q3 q4 q5 q6 HU
  have hpz' : (pl x num p.length).1 = 0 := by rw [hpl]; exact hpz
  have hs' : (pl x num p.length).2 = s := by rw [hpl]; exact hs
  have hrb := rb_tk ho hb hpz' hz
  rw [hs'] at hrb
  have HTK := Lib.hid (show (tk x num p).l = refWi x.l s ∧ (tk x num p).first = x.first ∧ (tk x num p).room = x.room from by
    refine ⟨?_, ?_, ?_⟩
    all_goals (unfold tk; rw [if_pos hpz'])
    rw [hs'])
  have HTD := Lib.hid (show td x num p.length = ⟨s, (td x num p.length).fresh, meetP (nextL x.l s.1) s⟩ from by unfold td; rw [if_pos hpz', hs'])
  have hwl := wi_len x.l s ho.l q6.ok
  have HW := Lib.hid (fun X (k : Below w.heap.size w X) => show Calls Try.prog 32 #[.slice q.la q.ln q.lc, spV s] X fun e w' => ∃ a' n' cap', e = .returned (.slice a' n' cap') ∧ SlS w' a' n' cap' (refWi x.l s) ∧ Below X.heap.size X w' ∧ ∀ y, a' = some y → 0 < n' → (q.la = some y ∧ 0 < q.ln) ∨ X.heap.size ≤ y.block from
    (rwith_any (h.l.later k) (by have := h.l.len; omega) s).mono fun e w' ⟨a', n', cap', r1, r2, r3, r4⟩ => ⟨a', n', cap', r1, r2, r3, fun y hy h0 => by
      rcases r4 y hy with ⟨e1, e2⟩ | e1
      · exact .inl ⟨e1, by omega⟩
      · exact .inr e1⟩)
  have HLLT := Lib.hid h.llt
  have HNE := Lib.hid (fun X (k : R3 w x q X) => rnext_any (h.l.later k.below) s.1)
  have HME := Lib.hid (fun X => rmeet_any (nextL x.l s.1) s X)
  have HRU := Lib.hid (fun X (k : R3 w x q X) o => rrun_any (h.l.later k.below) o)
  unfold RetS at HNE HME HRU
  have HP := Lib.hid (And.intro h (And.intro hp (And.intro ho hb)))
  have HRB := Lib.hid hrb
  have hw1 : IntKind.i64.wrap (num - x.first) = num - x.first := IntWalk.i64_in _ (by omega)
  have hw2 := conv_u num hnum
  have hw3 := conv_u x.first hf
  have hw4 : IntKind.i64.wrap (s.1 + (n : Int)) = s.1 + (n : Int) := IntWalk.i64_in _ (by omega)
  have hw5 : IntKind.i64.wrap (nx x.l + (x.room : Int)) = nx x.l + (x.room : Int) := IntWalk.i64_in _ (by have := hx.1; omega)
  have h3 : ¬ (2048 : Int) < (n : Int) := by omega
  have h4 : ¬ (n : Int) = 0 := by omega
  have h5 : ¬ s.1 < 0 := by omega
  have h6 : ¬ nx x.l + (x.room : Int) < s.1 + (n : Int) := by omega
  have HQ := Lib.hid (show 1 ≤ n ∧ n ≤ 2048 ∧ 0 ≤ s.1 ∧ s.2 = s.1 + n ∧ s.2 ≤ nx x.l + x.room ∧ ROk s ∧ x.room ≤ 65536 ∧ nx x.l ≤ 1000000000 from ⟨q1, q2, q3, q4, q5, q6, hrm.2, hz⟩)
  have HBN := Lib.hid (show q.bn ≤ 1000065536 from by have := h.b.len; have := hb.len; omega)
  have HSN := Lib.hid (show s.1 ≤ 1000065536 from by omega)
  have HLEN := Lib.hid (show (refWi x.l s).length ≤ 4096 from by omega)
  generalize meetP (nextL x.l s.1) s = d at *
  generalize (td x num p.length).fresh = fr at *
  generalize td x num p.length = tt at *
  generalize tk x num p = x' at *
  generalize nextL x.l s.1 = y at *
  clear h hb ho hp hx hpl2 hs hs' hpz hpz' hrb hrm hf hm q1 q2 q3 q5 q6 hwl
  have HQ4 := Lib.hid q4
  clear q4
  generalize nx x.l = n1 at *
  go_enter Try.func10, Try.ntmps10
  go_upto_region 1 with fail
  generalize ((w.alloc (hrO x q)).alloc hrZ).alloc rtZ = W at *
  obtain ⟨r0, r1, r2, r3⟩ := h4_of HR.out.b0
  go_upto_region 6 with (go_at_call 29; (with_reducible refine (HN.out _ HR.out).mono ?_); rintro e w1 ⟨rfl, hb1⟩)
  have HR1 := Lib.hid (HR.out.later hb1)
  clear r0 r1 r2 r3 hb1 HR
  obtain ⟨r0, r1, r2, r3⟩ := h4_of HR1.out.b0
  go_upto_region 7 with (first
    | (go_at_call 31; (with_reducible refine (HM.out _).mono ?_); rintro e w2 ⟨rfl, rfl⟩)
    | (go_at_call 30; (with_reducible refine (HU.out _).mono ?_); rintro e w2 ⟨rfl, rfl⟩))
  go_upto_region 12 with fail
  have HS1 := Lib.hid (show SpAt (w1.alloc (.cells #[.int .i64 s.1, .int .i64 (s.1 + (n : Int))] 36)) w1.heap.size s from by rw [← HQ4.out]; exact sp_new w1 s)
  have HR2 := Lib.hid (HR1.out.later (bal (.cells #[.int .i64 s.1, .int .i64 (s.1 + (n : Int))] 36)))
  have HFS := Lib.hid (show w.heap.size + 2 < w1.heap.size from lt_of_block HR1.out.rt)
  clear r0 r1 r2 r3 HR1
  generalize w1.alloc (.cells #[.int .i64 s.1, .int .i64 (s.1 + (n : Int))] 36) = W2 at *
  generalize w1.heap.size = bs at *
  obtain ⟨r0, r1, r2, r3⟩ := h4_of HR2.out.b0
  have e0 := HS1.out.c0; have e1 := HS1.out.c1
  have hlen := HLEN.out
  go_upto_region 14 with (go_at_call 32; (with_reducible refine (HW.out _ HR2.out.below).mono ?_); rintro e w3 ⟨la', ln', lc', rfl, hsl, hb3, _⟩; have hln := hsl.len; have hln' : ¬ (4096 : Int) < (ln' : Int) := by omega)
  have HR3 := Lib.hid (HR2.out.later hb3)
  have HS3 := Lib.hid (HS1.out.later hb3)
  clear r0 r1 r2 r3 e0 e1 hlen hsl hb3 hln hln' HR2 HS1
  have e0 := HS3.out.c0; have e1 := HS3.out.c1
  go_upto_region 15 with fail
  have F : RW w x q s bs w3.heap.size 0 false (0, 0) (w3.alloc (.cells #[.int .i64 s.1, .int .i64 s.2, .int .i64 0, .bool false, .int .i64 0, .int .i64 0] 41)) :=
    ⟨HR3.out.later (bal _), HS3.out.later (bal _), heap_alloc_new w3 _, HFS.out, lt_of_block HR3.out.rt⟩
  clear e0 e1 HR3 HS3
  generalize w3.alloc (.cells #[.int .i64 s.1, .int .i64 s.2, .int .i64 0, .bool false, .int .i64 0, .int .i64 0] 41) = W4 at *
  generalize w3.heap.size = bt at *
  obtain ⟨c0, c1, c2⟩ := F.s15
  have F0 := F.later (Below.refl _ _).drew
  have P0 := F0.s15
  go_region_held3 (fun V => S15 w bs x q s V) (first | with_reducible exact P0 | with_reducible exact P1 | with_reducible exact P2 | with_reducible exact P3 | go_keep)
    (first
    | (go_at_call 34; (with_reducible refine (HNE.out _ F0.r).mono ?_); rintro e w5 ⟨rfl, h5⟩; have F1 := F0.later h5; have P1 := F1.s15)
    | (go_at_call 33; (with_reducible refine (HME.out _).mono ?_); rintro e w6 ⟨rfl, h6⟩; have F2 := F1.later h6; have P2 := F2.s15; obtain ⟨⟨d0, d1, d2, d3, d4, d5⟩, g2, g3, g4, g5⟩ := t6c_of F2.t; have F3 := F2.dup d; have P3 := F3.s15))
  clear P0 P1 P2 P3 c0 c1 c2 d0 d1 d2 d3 d4 d5 g2 g3 g4 g5 F F0 F1 F2 h5 h6
  generalize (w6.setCell ⟨bt, 4, none⟩ (.int .i64 d.1)).setCell ⟨bt, 5, none⟩ (.int .i64 d.2) = W6 at *
  obtain ⟨⟨d0, d1, d2, d3, d4, d5⟩, g2, g3, g4, g5⟩ := t6c_of F3.t
  have HLN := Lib.hid (fun X => rlen_any d X)
  unfold RetI at HLN
  go_upto_region 17 with (go_at_call 35; (with_reducible refine (HLN.out _).mono ?_); rintro e w7 ⟨rfl, h7⟩; replace F3 := F3.later h7; clear d0 d1 d2 d3 d4 d5 g2 g3 g4 g5; obtain ⟨⟨d0, d1, d2, d3, d4, d5⟩, g2, g3, g4, g5⟩ := t6c_of F3.t)
  have F4 := F3.is (decide (0 < lenI d))
  clear F3 h7 d0 d1 d2 d3 d4 d5 g2 g3 g4 g5 HLN HNE HME
  generalize w7.setCell ⟨bt, 3, none⟩ (.bool (decide (0 < lenI d))) = W7 at *
  obtain ⟨r0, r1, r2, r3⟩ := h4_of F4.r.b0
  obtain ⟨i0, hi, hz0, hz1, hz2⟩ := info_split8
  have HO := Lib.hid (own_empty W7 w.heap.size F4.r.below.size)
  have F5 := F4.later (bal (.cells #[] 5))
  have r3' := (h4_of F5.r.b0).2.2.2
  have HSRC := Lib.hid ((HP.out.1.b.later F5.r.below).src (P := Try.prog) Try.underlying24)
  have HF4 := Lib.hid F4
  have hz7 := F4.r.below.size
  have hbn := HBN.out
  clear F4 F5
  go_upto_region 18 with (at_builtin; go_must (refine wpList_append_any _ rfl (.tmp 79) (.tmp 81) 24 24 rfl w.heap.size 5 i0 (.int .u8 0) 1 Try.underlying24 hi hz0 hz1 hz2 rfl (.slice (some ⟨W7.heap.size, 0, none⟩) 0 0) 0 [] rfl HO.out (.slice q.ba q.bn q.bc) rfl q.bn (ints .u8 b) HSRC.out (by unfold maxLen; omega) (by omega) (by simp; omega) ?_); intro a1 cap1 w8 ho hg hat)
  simp only [Nat.zero_add, List.nil_append] at ho hat ⊢
  have HF6 : Hid (RW w x q s bs bt ((refB x.l s.1.toNat p b 0).2 : Nat) (decide (0 < lenI d)) d w8 ∧ BRow w8 a1 q.bn cap1 (refB x.l s.1.toNat p b 0).1 ∧ ∀ b ∈ blk a1 cap1, w.heap.size ≤ b) := Lib.hid (by
    have hb8 : Below W7.heap.size W7 w8 := (bal (w := W7) (.cells #[] 5)).trans (below_grown hg (by simp) (fun k hk => by simp [Value.ownBlock] at hk; omega))
    obtain ⟨a3, cap3, hv, hsl, hbk⟩ := slr_of_own ho
    injection hv with v1 v2 v3
    subst v1 v3
    exact ⟨HF4.out.later hb8, hsl, hbk⟩)
  clear r0 r1 r2 r3 r3' ho hg hat HO HSRC HF4 hz7 hbn
  go_wp2_with fail
  go_loopw [13, 14] (fun v i wr => ∃ (k m : Nat) (a : Option Addr) (cap : Nat), k ≤ n ∧ i = .int .i64 k ∧ v = .slice a m cap ∧ Hid (RW w x q s bs bt ((refB x.l s.1.toNat p b k).2 : Nat) (decide (0 < lenI d)) d wr ∧ BRow wr a m cap (refB x.l s.1.toNat p b k).1 ∧ ∀ b ∈ blk a cap, w.heap.size ≤ b)) (fun _ i _ => n - (intOf i).toNat)
  case atStart => exact ⟨0, q.bn, a1, cap1, Nat.zero_le _, rfl, rfl, HF6⟩
  case round =>
    clear HF6
    obtain ⟨k, m, a, cap, hk, rfl, rfl, HK⟩ := hrel
    obtain ⟨q1, q2, q3, q4, q5, q6, q7, q8⟩ := HQ.out
    clear q4 q5 q6
    have hsn := HSN.out
    by_cases hlt : k < n
    · obtain ⟨F, hrow, hfar⟩ := HK.out
      have hm := brow_len hrow
      have hspec := refB_spec HP.out.2.2.1.l (off := s.1.toNat) HP.out.2.2.2.byte k (p := p) (by omega)
      have hcnt := (refB_cnt HP.out.2.2.1.l s.1.toNat p b k (by omega)).2
      have hml : m ≤ 100000000000 := by
        have h1 := hspec.2
        have h2 := HBN.out
        have h3 := HP.out.1.b.len
        omega
      have hcast : (((s.1.toNat + k : Nat)) : Int) = s.1 + (k : Int) := by omega
      have HST := Lib.hid (refB_succ x.l s.1.toNat p b k)
      have hple := HP.out.2.1.le
      obtain ⟨bb, boff, rfl, hbc⟩ := (HP.out.2.1.later F.r.below).cells (by omega)
      have hby := hbc k hlt
      have HBY := Lib.hid (fun X (hX : Below wr.heap.size wr X) => kcell hX hby)
      have hw6 : IntKind.i64.wrap (s.1 + (k : Int)) = s.1 + (k : Int) := IntWalk.i64_in _ (by omega)
      clear hspec hbc
      have hinB := inB_len x.l (s.1 + (k : Int))
      have hs0 : ((s.1.toNat : Nat) : Int) = s.1 := by omega
      have hin2 : inB x.l (((s.1.toNat : Nat) : Int) + (k : Int)) = inB x.l (s.1 + (k : Int)) := by rw [hs0]
      generalize hRB : refB x.l s.1.toNat p b k = RB1 at *
      obtain ⟨b1, n2⟩ := RB1
      dsimp only at *
      have HRUK := Lib.hid (fun X (k2 : R3 w x q X) => HRU.out X k2 (s.1 + (k : Int)))
      generalize hrun : runL x.l (s.1 + (k : Int)) = z at *
      have HZL := Lib.hid (fun X => rlen_any z X)
      unfold RetI at HZL
      obtain ⟨r0, r1, r2, r3⟩ := h4_of F.r.b0
      by_cases hin : lenI z = 0
      · have hb1 : ¬ inB x.l (((s.1.toNat : Nat) : Int) + (k : Int)) = true := by rw [hin2]; exact fun q => hinB.1 q hin
        have hst : refB x.l s.1.toNat p b (k + 1) = (layB b1 (s.1.toNat + k) (p.getD k 0), n2 + 1) := by rw [HST.out]; unfold stB; rw [if_neg hb1]
        have HF := Lib.hid F
        have HRW := Lib.hid (And.intro hrow hfar)
        have hw7 : IntKind.i64.wrap ((n2 : Int) + 1) = (n2 : Int) + 1 := IntWalk.i64_in _ (by omega)
        generalize p.getD k 0 = c at *
        have HLY := Lib.hid (fun X (r : BRow X a m cap b1) => show Calls Try.prog 37 #[.slice a m cap, .int .i64 (s.1 + (k : Int)), .int .u8 c] X fun e w' => ∃ a' n' cap', e = .returned (.slice a' n' cap') ∧ BRow w' a' n' cap' (layB b1 (s.1.toNat + k) c) ∧ Kept (blk a cap) X w' ∧ ∀ b ∈ blk a' cap', b ∈ blk a cap ∨ X.heap.size ≤ b from by
          have := rlay_any r (s.1.toNat + k) c hml (by omega)
          rw [hcast] at this
          exact this)
        clear hinB hin2 hb1 HST
        go_upto_region 22 with (first
          | (go_at_call 36; (with_reducible refine (HRUK.out _ HF.out.r).mono ?_); rintro e w9 ⟨rfl, h9⟩)
          | (go_at_call 35; (with_reducible refine (HZL.out _).mono ?_); rintro e w10 ⟨rfl, h10⟩; rw [hin]))
        have hb10 := h9.trans (h10.mono h9.size)
        have hby2 := HBY.out _ hb10
        have HF10 := Lib.hid (HF.out.later hb10)
        have HR10 := Lib.hid (HRW.out.1.later hb10)
        clear F hrow hfar h9 h10 hb10 r0 r1 r2 r3 hby
        go_upto_region 23 with (go_at_call 37; (with_reducible refine (HLY.out _ HR10.out).mono ?_); rintro e w11 ⟨a', n', cap', rfl, hrow, hkp, hnew⟩)
        have F11 := HF10.out.u8 hkp (fun b0 hb0 => ⟨HRW.out.2 b0 hb0, (HR10.out.lt b0 hb0).2⟩)
        obtain ⟨⟨d0, d1, d2, d3, d4, d5⟩, g2, g3, g4, g5⟩ := t6c_of F11.t
        have HQ2 := Lib.hid (show RW w x q s bs bt ((refB x.l s.1.toNat p b (k + 1)).2 : Nat) (decide (0 < lenI d)) d (w11.setCell ⟨bt, 2, none⟩ (.int .i64 ((n2 : Int) + 1))) ∧ BRow (w11.setCell ⟨bt, 2, none⟩ (.int .i64 ((n2 : Int) + 1))) a' n' cap' (refB x.l s.1.toNat p b (k + 1)).1 ∧ ∀ b ∈ blk a' cap', w.heap.size ≤ b from by
          rw [hst]
          refine ⟨?_, hrow.keep ((Kept.refl [bt] w11).setCell (.inl (by simp)) _) (fun b0 hb0 e => ?_), fun b0 hb0 => ?_⟩
          · have := F11.fresh ((n2 : Int) + 1)
            exact this
          · simp at e
            subst e
            obtain ⟨_, cs, qq⟩ := hrow.lt b0 hb0
            exact typ_ne qq F11.t (by decide) rfl
          · rcases hnew b0 hb0 with e | e
            · exact HRW.out.2 b0 e
            · have := HF10.out.r.below.size; omega)
        clear hst hrow hkp hnew F11 HF10 HR10 HLY
        go_wp2_with fail
        go_roundw
        case rel => exact ⟨k + 1, n', a', cap', by omega, by go_num, rfl, HQ2⟩
        case measure => simp [intOf]; omega
      · have hb1 : inB x.l (((s.1.toNat : Nat) : Int) + (k : Int)) = true := by rw [hin2]; exact hinB.2 hin
        have hst : refB x.l s.1.toNat p b (k + 1) = (b1, n2) := by rw [HST.out]; unfold stB; rw [if_pos hb1]
        have HF := Lib.hid F
        have HRW := Lib.hid (And.intro hrow hfar)
        clear hinB hin2 hb1 HST
        go_wp2_with (first
          | (go_at_call 36; (with_reducible refine (HRUK.out _ HF.out.r).mono ?_); rintro e w9 ⟨rfl, h9⟩)
          | (go_at_call 35; (with_reducible refine (HZL.out _).mono ?_); rintro e w10 ⟨rfl, h10⟩))
        have hb10 := h9.trans (h10.mono h9.size)
        have HQ2 := Lib.hid (show RW w x q s bs bt ((refB x.l s.1.toNat p b (k + 1)).2 : Nat) (decide (0 < lenI d)) d w10 ∧ BRow w10 a m cap (refB x.l s.1.toNat p b (k + 1)).1 ∧ ∀ b ∈ blk a cap, w.heap.size ≤ b from by
          rw [hst]
          exact ⟨HF.out.later hb10, HRW.out.1.later hb10, HRW.out.2⟩)
        clear hst F hrow hfar h9 h10 hb10 r0 r1 r2 r3
        go_wp2_with fail
        go_roundw
        case rel => exact ⟨k + 1, m, a, cap, by omega, by go_num, rfl, HQ2⟩
        case measure => simp [intOf]; omega
    · obtain rfl : k = n := by omega
      rw [← hpl] at HK
      obtain ⟨F, hrow, hfar⟩ := HK.out
      obtain ⟨rb1, rb2, rb3⟩ := HRB.out
      rw [rb2] at F
      generalize hRB : refB x.l s.1.toNat p b p.length = RB1 at *
      obtain ⟨b1, n2⟩ := RB1
      dsimp only at *
      have F1 := F.put (q' := ⟨q.la, q.ln, q.lc, a, m, cap⟩) (x' := x) 3 (.slice a m cap) rfl
      have hrow1 := hrow.keep ((Kept.refl [w.heap.size] wr).setCell (p := ⟨w.heap.size, 3, none⟩) (.inl (by simp)) (.slice a m cap)) (fun b0 hb0 e => by
        simp at e
        subst e
        obtain ⟨_, cs, qq⟩ := hrow.lt _ hb0
        exact typ_ne qq F.r.b0 (by decide) rfl)
      obtain ⟨r0, r1, r2, r3⟩ := h4_of F.r.b0
      have f3 := fofr F.r.b0 3
      have HF1 := Lib.hid F1
      have HRW1 := Lib.hid hrow1
      have HB1 := Lib.hid rb1
      clear F hrow hrow1 rb1 rb2 rb3 HRB HK hRB F1 HRU
      go_upto_region 25 with fail
      clear r0 r1 r2 r3 f3
      generalize wr.setCell ⟨w.heap.size, 3, none⟩ (.slice a m cap) = V at *
      obtain ⟨r0, r1, r2, r3⟩ := h4_of HF1.out.r.b0
      have e0 := HF1.out.sp.c0; have e1 := HF1.out.sp.c1
      go_upto_region 26 with (go_at_call 32; (with_reducible refine (HW.out _ HF1.out.r.below).mono ?_); rintro e w9 ⟨la', ln', lc', rfl, hsl, h9, hfa⟩; have F2 := HF1.out.later h9; have f2 := fofr F2.r.b0 2; have c2 := (h4_of F2.r.b0).2.2.1)
      have F3 := F2.put (q' := ⟨la', ln', lc', a, m, cap⟩) (x' := x') 2 (.slice la' ln' lc') (by simp [HTK.out.2.1, HTK.out.2.2])
      have hz2 := HF1.out.r.below.size
      have hk0 : Kept [w.heap.size] w9 (w9.setCell ⟨w.heap.size, 2, none⟩ (.slice la' ln' lc')) := (Kept.refl [w.heap.size] w9).setCell (.inl (by simp)) _
      have hVs : w.heap.size + 2 < V.heap.size := lt_of_block HF1.out.r.rt
      have hsl3 := hsl.keep hk0 (fun y hy h0 e => by simp at e; rcases hfa y hy h0 with q | q; (have := HLLT.out y q.1 q.2; omega); omega)
      have hrow3 := (HRW1.out.later h9).keep hk0 (fun b0 hb0 e => by
        simp at e
        subst e
        obtain ⟨_, cs, qq⟩ := (HRW1.out.later h9).lt _ hb0
        exact typ_ne qq F2.r.b0 (by decide) rfl)
      clear r0 r1 r2 r3 e0 e1 hsl F2 f2 c2 hk0
      generalize w9.setCell ⟨w.heap.size, 2, none⟩ (.slice la' ln' lc') = V3 at *
      obtain ⟨r0, r1, r2, r3⟩ := h4_of F3.r.b0
      obtain ⟨⟨d0, d1, d2, d3, d4, d5⟩, _⟩ := t6c_of F3.t
      have FD := F3
      clear F3
      have hend := end_at (x := x') (q := ⟨la', ln', lc', a, m, cap⟩) FD.r.rh FD.r.rt FD.r.below (.int .i64 s.1) (.int .i64 s.2) (.int .i64 fr) (.bool (decide (0 < lenI d))) (.int .i64 d.1) (.int .i64 d.2)
      have hnb1 : ∀ b0 ∈ blk a cap, b0 ∉ [w.heap.size + 1, w.heap.size + 2] := fun b0 hb0 e => by
        obtain ⟨_, cs, qq⟩ := hrow3.lt b0 hb0
        simp at e
        rcases e with rfl | rfl
        · exact typ_ne qq FD.r.rh (by decide) rfl
        · exact typ_ne qq FD.r.rt (by decide) rfl
      have hRA : RA (endW w x' ⟨la', ln', lc', a, m, cap⟩ (.int .i64 s.1) (.int .i64 s.2) (.int .i64 fr) (.bool (decide (0 < lenI d))) (.int .i64 d.1) (.int .i64 d.2) V3) x' ⟨la', ln', lc', a, m, cap⟩ b1 := by
        refine ⟨?_, ?_⟩
        · have := hsl3.keep hend.2.2.2 (fun y hy h0 e => by simp at e; rcases hfa y hy h0 with q | q; (have := HLLT.out y q.1 q.2; omega); omega)
          rw [HTK.out.1]
          exact this
        · exact (hrow3.keep hend.2.2.2 hnb1).sla
      have hf1 := FD.far
      have k4 := put4_kept (w.heap.size + 1) (.int .u32 x'.first) (.int .i64 (x'.room : Int)) (.slice la' ln' lc') (.slice a m cap) V3
      have P0 := And.intro (h4_of FD.r.b0) (t6c_of FD.t).1
      have hb1 := k4.heap (by simp) FD.r.b0
      have ht1 := k4.heap (k := bt) (by simp; omega) FD.t
      have hq1 := k4.heap (k := w.heap.size + 2) (by simp) FD.r.rt
      have hb2 := hend.2.2.2.heap (by simp) FD.r.b0
      have ht2 := hend.2.2.2.heap (k := bt) (by simp; omega) FD.t
      obtain ⟨U1, hU1⟩ : ∃ U1, U1 = put4 (w.heap.size + 1) (.int .u32 x'.first) (.int .i64 (x'.room : Int)) (.slice la' ln' lc') (.slice a m cap) V3 := ⟨_, rfl⟩
      rw [← hU1] at hb1 ht1 hq1
      obtain ⟨U, hU⟩ : ∃ U, U = endW w x' ⟨la', ln', lc', a, m, cap⟩ (.int .i64 s.1) (.int .i64 s.2) (.int .i64 fr) (.bool (decide (0 < lenI d))) (.int .i64 d.1) (.int .i64 d.2) V3 := ⟨_, rfl⟩
      rw [← hU] at hb2 ht2 hRA hend
      unfold endW at hU
      rw [← hU1] at hU
      have HP1 := Lib.hid (And.intro (h4_of (show U1.drew.heap[w.heap.size]? = _ from hb1)) (t6c_of (show U1.drew.heap[bt]? = _ from ht1)).1)
      have HP2 := Lib.hid (And.intro (h4_of (show U.drew.heap[w.heap.size]? = _ from hb2)) (t6c_of (show U.drew.heap[bt]? = _ from ht2)).1)
      have HU1 := Lib.hid hU1
      have HU2 := Lib.hid hU
      have HFF := Lib.hid (show RtP q x' tt 0 w (.returned (.tuple #[.agg (hrC x' ⟨la', ln', lc', a, m, cap⟩), .agg (tC s fr (decide (0 < lenI d)) d), .int .i64 0])) U.drew from
        ⟨⟨la', ln', lc', a, m, cap⟩, b1, by rw [HTD.out], hRA.later (Below.refl _ _).drew, HB1.out, hend.2.2.1.drew, fun y hy h0 => by rcases hfa y hy h0 with q | q; exact .inl q; exact .inr (by omega), fun y hy h0 => .inr (by obtain ⟨g0, off0, hy1, _⟩ := hrow3.cell h0; simp only at hy; rw [hy] at hy1; injection hy1 with hy1; subst hy1; have hmem : g0 ∈ blk a cap := (by rw [hy, blk_some _ _ _ h0]; simp); have hz1 := (hrow3.lt g0 hmem).1; have hz2 := hend.2.2.2.size; exact ⟨hfar _ hmem, Nat.lt_of_lt_of_le hz1 hz2⟩)⟩)
      have HE := Lib.hid (show U.drew.heap[w.heap.size + 1]? = some (hrO x' ⟨la', ln', lc', a, m, cap⟩) ∧ U.drew.heap[w.heap.size + 2]? = some (tO s fr (decide (0 < lenI d)) d) from ⟨hend.1, hend.2.1⟩)
      obtain ⟨⟨z0, z1, z2, z3⟩, f0, f1, f2, f3⟩ := hz_of FD.r.rh
      obtain ⟨⟨y0, y1, y2, y3, y4, y5⟩, k0, k1, k2, k3, k4', k5⟩ := tz_of hq1
      clear hfar hend hnb1 hsl3 hrow3 hfa k4 FD hb1 ht1 hb2 ht2 hRA hU hU1 hq1
      refine wp_region_noPanic ?_
      refine wp_region_held_drew (S := (fun W => H4 w.heap.size x' ⟨la', ln', lc', a, m, cap⟩ W ∧ (W.cell? ⟨bt, 0, none⟩ = some (.int .i64 s.1) ∧ W.cell? ⟨bt, 1, none⟩ = some (.int .i64 s.2) ∧ W.cell? ⟨bt, 2, none⟩ = some (.int .i64 fr) ∧ W.cell? ⟨bt, 3, none⟩ = some (.bool (decide (0 < lenI d))) ∧ W.cell? ⟨bt, 4, none⟩ = some (.int .i64 d.1) ∧ W.cell? ⟨bt, 5, none⟩ = some (.int .i64 d.2)))) (by kernel_rfl) ?_ (fun hHeld => ?_)
      · ((try dsimp only); exact P0)
      refine wpAnyH_take (i := 0) (oi := _) (v := ?_) rfl (by kernel_rfl) (by kernel_rfl) (by kernel_rfl) (fun _ _ _ h => h) (Or.inl ⟨by kernel_rfl, ?_⟩) (by assumption) ?_
      rotate_left
      · (first | (intro v hSw; (try dsimp only at hSw); go_simp; done) | (intro v hSw; (try dsimp only at hSw); go_simp; with_reducible rfl))
      (try simp only [List.getElem_toArray, List.getElem_cons_succ, List.getElem_cons_zero, Act.put, List.setIfInBounds_toArray, List.set_cons_zero, List.set_cons_succ])
      refine wpAnyH_take (i := 1) (oi := _) (v := ?_) rfl (by kernel_rfl) (by kernel_rfl) (by kernel_rfl) (fun _ _ _ h => h) (Or.inl ⟨by kernel_rfl, ?_⟩) (by assumption) ?_
      rotate_left
      · (first | (intro v hSw; (try dsimp only at hSw); go_simp; done) | (intro v hSw; (try dsimp only at hSw); go_simp; with_reducible rfl))
      (try simp only [List.getElem_toArray, List.getElem_cons_succ, List.getElem_cons_zero, Act.put, List.setIfInBounds_toArray, List.set_cons_zero, List.set_cons_succ])
      refine wpAnyH_ready (rs := [2]) (by kernel_rfl) (by simp) ?_
      refine AllReadyH.cons (o := _) rfl (fun K hK => ?_) AllReadyH.nil
      go_simp
      have hUx := HU1.out
      unfold put4 at hUx
      rw [← hUx]
      clear hUx
      refine hK.out _ _ ?_ (fun hHeld => ?_)
      · ((try dsimp only); exact HP1.out)
      clear hK K
      (try simp only [List.getElem_toArray, List.getElem_cons_succ, List.getElem_cons_zero, Act.put, List.setIfInBounds_toArray, List.set_cons_zero, List.set_cons_succ])
      refine wpAnyH_ready (rs := [3]) (by kernel_rfl) (by simp) ?_
      refine AllReadyH.cons (o := _) rfl (fun K hK => ?_) AllReadyH.nil
      go_simp
      rw [show w.heap.size + 1 + 1 = w.heap.size + 2 from rfl]
      have hUy := HU2.out
      unfold put6 at hUy
      rw [← hUy]
      clear hUy
      refine hK.out _ _ ?_ (fun hHeld => ?_)
      · ((try dsimp only); exact HP2.out)
      clear hK K
      (try simp only [List.getElem_toArray, List.getElem_cons_succ, List.getElem_cons_zero, Act.put, List.setIfInBounds_toArray, List.set_cons_zero, List.set_cons_succ])
      refine wpAnyH_take (i := 4) (oi := _) (v := ?_) rfl (by kernel_rfl) (by kernel_rfl) (by kernel_rfl) (fun _ _ _ h => h) (Or.inl ⟨by kernel_rfl, ?_⟩) (by assumption) ?_
      rotate_left
      · (first | (intro v hSw; (try dsimp only at hSw); go_simp; done) | (intro v hSw; (try dsimp only at hSw); go_simp; with_reducible rfl))
      (try simp only [List.getElem_toArray, List.getElem_cons_succ, List.getElem_cons_zero, Act.put, List.setIfInBounds_toArray, List.set_cons_zero, List.set_cons_succ])
      refine wpAnyH_done (by kernel_rfl) ?_ _
      refine NoPanic.normal ?_
      clear P0 HP1 HP2 r0 r1 r2 r3 d0 d1 d2 d3 d4 d5 z0 z1 z2 z3 f0 f1 f2 f3 y0 y1 y2 y3 y4 y5 k0 k1 k2 k3 k4' k5
      clear HU2 HU1 hf1 hVs hz2 hlt hk hsn q1 q2 q3 q7 q8 h3 h4 h5 h6 hw1 hw2 hw3 hw4 hw5
      go_wp2_with fail
      obtain ⟨s0, s1, s2, s3⟩ := h4_of HE.out.1
      obtain ⟨⟨t0, t1, t2, t3, t4, t5⟩, _⟩ := t6c_of HE.out.2
      exact bodyPost_ret (v := .tuple #[.agg (hrC x' ⟨la', ln', lc', a, m, cap⟩), .agg (tC s fr (decide (0 < lenI d)) d), .int .i64 0]) (by simp [results, Try.results10, go_sem, s0, s1, s2, s3, t0, t1, t2, t3, t4, t5]) rfl HFF.out
end Go.Proofs.Ytekddgmmfgpehaa.hd
/-!   Contracts of package octet: a writer that is written to by nobody else.
-/
namespace Go.Proofs.Ytekddgmmfgpehaa.oc
open Go.RowKit aid mem
set_option linter.unusedVariables false

theorem info5 : (Try.prog.info? 5).map (fun i => (i.zero, i.size, i.bytes)) = some (some (.int .u8 0), 1, 1) := by kernel_rfl

/-- a row of bytes of one's own is answered, in new memory -/
def RetRow (n : Nat) (l : List Int) (w : World) (e : Ending) (w' : World) : Prop :=
  ∃ v, e = .returned v ∧ w'.ownsRow w.heap.size 5 1 v n (ints .u8 l) ∧ Below w.heap.size w w'

/-! ### A writer -/
/-- at block p: a pointer to what is written, and its length; S: the blocks behind it -/
structure Wr (w : World) (p : Nat) (S : List Nat) (l : List Int) : Prop where
  f0 : w.frozen? ⟨p, 0, none⟩ = false
  f1 : w.frozen? ⟨p, 1, none⟩ = false
  c1 : w.cell? ⟨p, 1, none⟩ = some (.int .i64 l.length)
  small : l.length ≤ 140737488355328
  rest : (w.cell? ⟨p, 0, none⟩ = some (.pointer none) ∧ l = [] ∧ S = []) ∨
    ∃ sb v, w.cell? ⟨p, 0, none⟩ = some (.pointer (some ⟨sb, 0, none⟩)) ∧ w.cell? ⟨sb, 0, none⟩ = some v ∧ w.frozen? ⟨sb, 0, none⟩ = false ∧
      w.ownsRow 0 5 1 v l.length (ints .u8 l) ∧ sb ≠ p ∧ (∀ g, v.ownBlock = some g → g ≠ p ∧ g ≠ sb) ∧ S = sb :: v.ownBlock.toList

theorem Wr.keep {w w' : World} {p : Nat} {S S' : List Nat} {l : List Int} (h : Wr w p S l) (hk : Kept S' w w') (hp : p ∉ S') (hd : ∀ k ∈ S, k ∉ S') : Wr w' p S l := by
  rcases h.rest with ⟨h0, hl, hS⟩ | ⟨sb, v, h0, hs, hf, hown, hne, hg, hS⟩
  · exact ⟨(hk.frozen (p := ⟨p, 0, none⟩) hp h0).trans h.f0, (hk.frozen (p := ⟨p, 1, none⟩) hp h.c1).trans h.f1, hk.cell (p := ⟨p, 1, none⟩) hp h.c1, h.small, .inl ⟨hk.cell (p := ⟨p, 0, none⟩) hp h0, hl, hS⟩⟩
  · have hsb : sb ∉ S' := hd sb (by rw [hS]; simp)
    refine ⟨(hk.frozen (p := ⟨p, 0, none⟩) hp h0).trans h.f0, (hk.frozen (p := ⟨p, 1, none⟩) hp h.c1).trans h.f1, hk.cell (p := ⟨p, 1, none⟩) hp h.c1, h.small, .inr ⟨sb, v, hk.cell (p := ⟨p, 0, none⟩) hp h0, hk.cell (p := ⟨sb, 0, none⟩) hsb hs, (hk.frozen (p := ⟨sb, 0, none⟩) hsb hs).trans hf, hk.own ?_ hown, hne, hg, hS⟩⟩
    intro k hk'
    exact hd k (by rw [hS]; simp [hk'])

/-- the world is as it was, but for draws -/
def RetQ (v : Value) (w : World) (e : Ending) (w' : World) : Prop := e = .returned v ∧ ∃ n, w' = w.drewN n

/-- what is written behind -/
def WrPost (p : Nat) (S : List Nat) (l : List Int) (w : World) (e : Ending) (w' : World) : Prop :=
  e = .returned (.tuple #[]) ∧ ∃ S', Wr w' p S' l ∧ Kept (p :: S) w w' ∧ ∀ k ∈ S', k ∈ S ∨ w.heap.size ≤ k

/-- what is left behind a put: the store at sb, its row the old one or a new one -/
def PutPost (p sb : Nat) (ob : Option Nat) (l : List Int) (w : World) (e : Ending) (w' : World) : Prop :=
  e = .returned (.tuple #[]) ∧ ∃ a cap, w'.cell? ⟨p, 0, none⟩ = some (.pointer (some ⟨sb, 0, none⟩)) ∧ w'.cell? ⟨p, 1, none⟩ = some (.int .i64 l.length) ∧ w'.cell? ⟨sb, 0, none⟩ = some (.slice a l.length cap) ∧
    w'.ownsRow 0 5 1 (.slice a l.length cap) l.length (ints .u8 l) ∧ (Value.ownBlock (.slice a l.length cap) = ob ∨ ∃ g, Value.ownBlock (.slice a l.length cap) = some g ∧ w.heap.size ≤ g) ∧ (∀ g, Value.ownBlock (.slice a l.length cap) = some g → g ≠ p ∧ g ≠ sb) ∧ Kept (p :: sb :: ob.toList) w w' ∧ w'.frozen? ⟨p, 0, none⟩ = false ∧ w'.frozen? ⟨p, 1, none⟩ = false ∧ w'.frozen? ⟨sb, 0, none⟩ = false

theorem put_end (p sb : Nat) (ob : Option Nat) (l lb : List Int) (n m cap3 : Nat) (a0 : Option Addr) (cap0 : Nat) (a3 : Option Addr) (w w1 w3 : World) (hne : sb ≠ p) (hk1 : Kept [p] w w1) (hll : l.length = n) (hlb : lb.length = m)
    (hlp : p < w1.heap.size) (hls : sb < w1.heap.size) (hgp : some p ≠ ob) (hgs : some sb ≠ ob) (hgr : w1.drew.grownBy w3 ob)
    (hown3 : w3.ownsRow 0 5 1 (.slice a3 (n + m) cap3) (n + m) (ints .u8 l ++ ints .u8 lb))
    (hat3 : Value.ownBlock (.slice a3 (n + m) cap3) = ob ∨ Value.ownBlock (.slice a3 (n + m) cap3) = some w1.drew.heap.size)
    (c0 : w3.cell? ⟨p, 0, none⟩ = some (.pointer (some ⟨sb, 0, none⟩))) (c1 : w3.cell? ⟨p, 1, none⟩ = some (.int .i64 n)) (cs : w3.cell? ⟨sb, 0, none⟩ = some (.slice a0 n cap0))
    (d0 : w3.frozen? ⟨p, 0, none⟩ = false) (d1 : w3.frozen? ⟨p, 1, none⟩ = false) (ds : w3.frozen? ⟨sb, 0, none⟩ = false) :
    PutPost p sb ob (l ++ lb) w (.returned (.tuple #[])) ((w3.setCell ⟨sb, 0, none⟩ (.slice a3 (n + m) cap3)).setCell ⟨p, 1, none⟩ (.int .i64 (n + m))) := by
  have hlen : (l ++ lb).length = n + m := by simp [hll, hlb]
  have hpb : Value.ownBlock (.slice a3 (n + m) cap3) ≠ some p := by
    rcases hat3 with h | h <;> rw [h]
    · exact fun e => hgp e.symm
    · intro e; injection e with e; simp at e; omega
  have hsb : Value.ownBlock (.slice a3 (n + m) cap3) ≠ some sb := by
    rcases hat3 with h | h <;> rw [h]
    · exact fun e => hgs e.symm
    · intro e; injection e with e; simp at e; omega
  unfold PutPost
  rw [hlen]
  refine ⟨rfl, a3, cap3, ?_, ?_, ?_, ?_, ?_, fun g hg => ⟨fun e => hpb (by rw [hg, e]), fun e => hsb (by rw [hg, e])⟩, ?_, by simpa using d0, by simpa using d1, by simpa using ds⟩
  · exact (set_other (by simp)).trans ((set_other (by simp)).trans c0)
  · have : (w3.setCell ⟨sb, 0, none⟩ (.slice a3 (n + m) cap3)).cell? ⟨p, 1, none⟩ = some (.int .i64 n) := (set_other (by simp)).trans c1
    rw [set_same this]
    simp
  · exact (set_other (by simp)).trans (set_same cs)
  · rw [ints_append]
    exact ownsRow_setCell_other (ownsRow_setCell_other hown3 hsb _) hpb _
  · rcases hat3 with h | h
    · exact .inl h
    · exact .inr ⟨_, h, by have := hk1.size; simpa using this⟩
  · refine ((((hk1.mono (by simp)).drew).grown hgr ?_).setCell (.inl (by simp)) _).setCell (.inl (by simp)) _
    intro k hk
    exact .inl (by simp [hk])

def PutZ (p : Nat) (lb : List Int) (w : World) (e : Ending) (w' : World) : Prop := ∃ sb, w.heap.size ≤ sb ∧ PutPost p sb none lb w e w'

end Go.Proofs.Ytekddgmmfgpehaa.oc
/-!   Contracts of package octet: a writer's calls.
-/
namespace Go.Proofs.Ytekddgmmfgpehaa.oc
open Go.RowKit aid mem
set_option linter.unusedVariables false

end Go.Proofs.Ytekddgmmfgpehaa.oc
/-!   Contracts of the reference of layer 2: Same, Number.
-/
namespace Go.Proofs.Ytekddgmmfgpehaa.oc
open Go.RowKit aid mem
set_option linter.unusedVariables false

theorem same_true (a b : Option Addr) (n c1 c2 : Nat) (l : List Int) (w : World) (h1 : SlA .u8 w a n c1 l) (h2 : SlA .u8 w b n c2 l) :
    Calls Try.prog 15 #[.slice a n c1, .slice b n c2] w (RetQ (.bool true) w) := by
  have hm := h1.most
  have hle := h1.le
  have hle2 := h2.le
  unfold maxLen at hm
  by_cases hn : n = 0
  · subst hn
    go_enter Try.func15, Try.ntmps15
    go_wp2
    go_loop [5] (fun i => i = .int .i64 0) (fun _ => 0)
    case atStart => rfl
    case round =>
      obtain rfl := hrel
      go_wp2
      go_ret
      exact ⟨rfl, 0, rfl⟩
  · obtain ⟨b1, o1, rfl, hc1⟩ := h1.cells (by omega)
    obtain ⟨b2, o2, rfl, hc2⟩ := h2.cells (by omega)
    have H1 := Lib.hid hc1
    have H2 := Lib.hid hc2
    clear hc1 hc2
    go_enter Try.func15, Try.ntmps15
    go_wp2
    go_loopw [5] (fun i wr => ∃ k : Nat, k ≤ n ∧ i = .int .i64 k ∧ ∃ q, wr = w.drewN q) (fun i _ => n - (intOf i).toNat)
    case atStart => exact ⟨0, Nat.zero_le _, rfl, 0, rfl⟩
    case round =>
      obtain ⟨k, hk, rfl, q, rfl⟩ := hrel
      have hk0 : (0 : Int) ≤ (k : Int) := by omega
      by_cases hlt : k < n
      · have g1 := H1.out k hlt
        have g2 := H2.out k hlt
        have hk1 : (k : Int) < (n : Int) := by omega
        generalize l.getD k 0 = x at *
        go_wp2_with fail
        go_quiet (fail)
        go_wp2
        go_roundw
        case rel => exact ⟨k + 1, by omega, by go_num, _, rfl⟩
        case measure => simp [intOf]; omega
      · go_wp2
        go_ret
        exact ⟨rfl, q, rfl⟩

/-! ### The bytes of a number -/
def pw : Nat → Int
  | 0 => 1
  | j + 1 => pw j * 256
def bytesTo (n : Int) (size : Nat) (i : Nat) : List Int := (List.range i).map fun j => n / pw (size - 1 - j) % 256
theorem bytesTo_succ (n : Int) (size i : Nat) : bytesTo n size (i + 1) = bytesTo n size i ++ [n / pw (size - 1 - i) % 256] := by simp [bytesTo, List.range_succ]
theorem bytesTo_len (n : Int) (size i : Nat) : (bytesTo n size i).length = i := by simp [bytesTo]
theorem pw_bd (j : Nat) (h : j ≤ 3) : 1 ≤ pw j ∧ pw j ≤ 16777216 ∧ (j ≤ 2 → pw j ≤ 65536) := by
  match j, h with
  | 0, _ => decide
  | 1, _ => decide
  | 2, _ => decide
  | 3, _ => decide

end Go.Proofs.Ytekddgmmfgpehaa.oc
/-!   Heard: a segment, here and in the document; the law's equal.
-/
namespace Go.Proofs.Ytekddgmmfgpehaa.hd
open Go.RowKit Go.Shelf aid mem rng sp rn
attribute [local go_sem ↓] Go.wp_at_zero Go.wp_at_succ
set_option linter.unusedVariables false
set_option linter.unusedSimpArgs false

theorem take_any {w : World} {B : Nat} {m : Hb} {x : Hd} (h : HdAt w B m x) (hz : nx x.l ≤ 1000000000) (hl : x.l.length ≤ 4000) (num : Int) (hnum : 0 ≤ num ∧ num ≤ 4294967295) {ba : Option Addr} {n bcap : Nat} {p : List Int} (hp : SlA .u8 w ba n bcap p) (hd : ∀ y, ba = some y → 0 < n → y.block ∉ B :: parts m) :
    Calls Try.prog 9 #[.pointer (some ⟨B, 0, none⟩), .int .u32 num, .slice ba n bcap] w (TkP w B m x num p) := by
  by_cases hpz : (pl x num n).1 = 0
  · exact take_ok h hz hl num hnum hp hd hpz
  · exact take_bad h hz num hnum hp.len (by have := hp.le; have := hp.most; unfold maxLen at this; omega) hpz
theorem rtake_any {w : World} {x : Hd} {q : Rl} {b : List Int} (h : RA w x q b) (ho : Ok x) (hb : RB b x) (hl : x.l.length ≤ 4000) (hz : nx x.l ≤ 1000000000) (num : Int) (hnum : 0 ≤ num ∧ num ≤ 4294967295) {ba : Option Addr} {n bcap : Nat} {p : List Int} (hp : SlA .u8 w ba n bcap p) :
    Calls Try.prog 10 #[.agg (hrC x q), .int .u32 num, .slice ba n bcap] w (RtP q (tk x num p) (td x num p.length) (pl x num p.length).1 w) := by
  have hpl := hp.len
  by_cases hpz : (pl x num n).1 = 0
  · have := rtake_ok h ho hb hl hz num hnum hp hpz
    rw [hpl, hpz]
    rw [hpl] at this
    exact this
  · have e1 : td x num p.length = ⟨(0, 0), 0, (0, 0)⟩ := by rw [hpl]; unfold td; rw [if_neg hpz]
    have e2 : tk x num p = x := by unfold tk; rw [hpl, if_neg hpz]
    rw [e1, e2, hpl]
    by_cases h1 : n = 0 ∨ 2048 < n
    · have := rtake_len h hb num (ba := ba) (n := n) (bcap := bcap) (by have := hp.le; have := hp.most; unfold maxLen at this; omega) h1
      have e3 : (pl x num n).1 = if n = 0 then 6 else 9 := by
        unfold pl
        by_cases h0 : n = 0
        · rw [if_pos h0, if_pos h0]
        · rw [if_neg h0, if_neg h0, if_pos (by omega)]
      rw [e3]
      exact this
    · by_cases hu : (sq.unw (nx x.l) (sq.m32 (num - x.first))).2 = true
      · have hub : 0 ≤ (sq.unw (nx x.l) (sq.m32 (num - x.first))).1 ∧ (sq.unw (nx x.l) (sq.m32 (num - x.first))).1 ≤ 4611686018427387904 := by
          unfold sq.unw at hu ⊢
          split at hu
          · split at hu
            · rename_i q1 q2
              rw [if_pos q1, if_pos q2]
              unfold sq.isMay at q2
              simpa using q2
            · exact absurd hu (by decide)
          · exact absurd hu (by decide)
        by_cases ha : nx x.l + x.room < (sq.unw (nx x.l) (sq.m32 (num - x.first))).1 + n
        · have e3 : (pl x num n).1 = 12 := by unfold pl; rw [if_neg (by omega), if_neg (by omega), if_pos hu, if_pos ha]
          rw [e3]
          exact rtake_ahead h ho hb num hnum (by omega) (by omega) hu hz ha hub
        · exfalso
          apply hpz
          unfold pl
          rw [if_neg (by omega), if_neg (by omega), if_pos hu, if_neg ha]
      · have e3 : (pl x num n).1 = 11 := by unfold pl; rw [if_neg (by omega), if_neg (by omega), if_neg hu]
        rw [e3]
        exact rtake_old h ho hb num hnum (by omega) (by omega) hu
/-- the receiver, the document's in a box -/
structure ES (w : World) (B : Nat) (m : Hb) (x : Hd) (q : Rl) (b : List Int) (W : World) : Prop where
  h : HdAt W B m x
  b0 : W.heap[w.heap.size]? = some (hrO x q)
  ra : RA W x q b
  below : Below w.heap.size w W
theorem ES.later {w W W' : World} {B : Nat} {m : Hb} {x : Hd} {q : Rl} {b : List Int} (h : ES w B m x q b W) (hb : Below W.heap.size W W') : ES w B m x q b W' :=
  ⟨h.h.later hb, (hb.block _ (lt_of_block h.b0)).trans h.b0, h.ra.later hb, h.below.trans (hb.mono h.below.size)⟩
def EqP (w : World) (e : Ending) (w' : World) : Prop := e = .returned (.bool true) ∧ Below w.heap.size w w'
set_option maxRecDepth 100000 in
set_option maxHeartbeats 4000000 in
theorem equal_any {w : World} {B : Nat} {m : Hb} {x : Hd} {q : Rl} {b : List Int} (h : HdAt w B m x) (ha : RA w x q b) (hb : RB b x) (hz : nx x.l ≤ 1000000000) (hl : x.l.length ≤ 4000) :
    Calls Try.prog 11 #[.pointer (some ⟨B, 0, none⟩), .agg (hrC x q)] w (EqP w) := by
  have ho := h.ok
  have HN := Lib.hid (fun X (s : ES w B m x q b X) => next_q s.h)
  have HRN := Lib.hid (fun X (s : ES w B m x q b X) => rnx_any s.ra.l)
  have HT := Lib.hid (fun X (s : ES w B m x q b X) => text_any s.h hz)
  have HRT := Lib.hid (fun X (s : ES w B m x q b X) => rtext_any s.ra s.h.ok hb)
  have HSM := Lib.hid (fun X a1 a2 c1 c2 (h1 : SlA .u8 X a1 (nx x.l).toNat c1 (txt x)) (h2 : SlA .u8 X a2 (nx x.l).toNat c2 (txt x)) => oc.same_true a1 a2 (nx x.l).toNat c1 c2 (txt x) X h1 h2)
  have HA := Lib.hid (fun X (s : ES w B m x q b X) => labove_any s.h (by omega))
  have HRA := Lib.hid (fun X (s : ES w B m x q b X) => rabove_any s.ra.l (by have := s.ra.l.len; omega) s.h.ok)
  have HSP := Lib.hid (fun X a1 n1 c1 a2 n2 c2 (h1 : SlS X a1 n1 c1 (abv x)) (h2 : SlS X a2 n2 c2 (abv x)) => rsame_any h1 h2)
  have HB := Lib.hid (fun X (s : ES w B m x q b X) => hbytes_any s.h (by omega))
  have HRB := Lib.hid (fun X (s : ES w B m x q b X) => rbytes_any s.ra.l s.h.ok.l)
  unfold RetI at HRN HB HRB
  unfold RetT at HT
  rw [txt_len] at HT
  unfold rn.Told at HA
  have hb1 := bal (w := w) (hrO x q)
  have S0 : ES w B m x q b (w.alloc (hrO x q)) := ⟨h.later hb1, heap_alloc_new w _, ha.later hb1, hb1⟩
  clear h ha hb hb1 ho
  generalize bytesL x.l = y at *
  generalize abv x = AB at *
  generalize txt x = TX at *
  generalize nx x.l = n1 at *
  go_enter Try.func11, Try.ntmps11
  go_upto_region 1 with fail
  generalize w.alloc (hrO x q) = W at *
  obtain ⟨c0, c1, c2, c3⟩ := h4_of S0.b0
  have S := S0.later (Below.refl _ _).drew
  clear S0
  have P0 := h4_of S.b0
  go_region_held3 (fun X => H4 w.heap.size x q X) (first | with_reducible exact P0 | with_reducible exact P1 | go_keep)
    (first
      | (go_at_call 14; (with_reducible refine (HN.out _ S).mono ?_); rintro e w2 ⟨rfl, rfl⟩)
      | (go_at_call 29; (with_reducible refine (HRN.out _ S).mono ?_); rintro e w2 ⟨rfl, hb⟩; have S2 := S.later hb; clear S hb; have S := S2; clear S2; have P1 := h4_of S.b0)
      | (go_at_call 16; (with_reducible refine (HT.out _ S).mono ?_); rintro e w2 ⟨ta, tc, rfl, t1, hb, _⟩; have T1 := t1.sla; have S2 := S.later hb; clear S hb t1; have S := S2; clear S2; have P1 := h4_of S.b0)
      | (go_at_call 38; (with_reducible refine (HRT.out _ S).mono ?_); rintro e w2 ⟨rfl, T2, hb⟩; have T1' := T1.later hb; clear T1; have S2 := S.later hb; clear S hb; have S := S2; clear S2; have P1 := h4_of S.b0)
      | (go_at_call 15; (with_reducible refine (HSM.out _ _ _ _ _ T1' T2).mono ?_); rintro e w2 ⟨rfl, k, rfl⟩; have S2 := S.later (below_drewN (Below.refl _ _) k); clear S T1' T2; have S := S2; clear S2; have P1 := h4_of S.b0)
      | (go_at_call 18; (with_reducible refine (HA.out _ S).mono ?_); rintro e w2 ⟨v, rfl, o1, hb⟩; obtain ⟨a6, c6, rfl, A1, _⟩ := sls_of_own o1; have S2 := S.later hb; clear S hb o1; have S := S2; clear S2; have P1 := h4_of S.b0)
      | (go_at_call 39; (with_reducible refine (HRA.out _ S).mono ?_); rintro e w2 ⟨a7, n7, c7, rfl, A2, hb⟩; have A1' := A1.later hb; have S2 := S.later hb; clear S hb A1; have S := S2; clear S2; have P1 := h4_of S.b0)
      | (go_at_call 17; (with_reducible refine (HSP.out _ _ _ _ _ _ _ A1' A2).mono ?_); rintro e w2 ⟨rfl, hb⟩; (try simp only [decide_true]); have S2 := S.later hb; clear S hb A1' A2; have S := S2; clear S2; have P1 := h4_of S.b0)
      | (go_at_call 12; (with_reducible refine (HB.out _ S).mono ?_); rintro e w2 ⟨rfl, hb⟩; have S2 := S.later hb; clear S hb; have S := S2; clear S2; have P1 := h4_of S.b0)
      | (go_at_call 40; (with_reducible refine (HRB.out _ S).mono ?_); rintro e w2 ⟨rfl, hb⟩; have S2 := S.later hb; clear S hb; have S := S2; clear S2; have P1 := h4_of S.b0))
  have HS := Lib.hid S.below
  clear S P0 P1 c0 c1 c2 c3
  go_wp2_with fail
  go_ret
  exact ⟨rfl, HS.out⟩
end Go.Proofs.Ytekddgmmfgpehaa.hd
/-!   Structs that came in, and slices of them (written by gen_open.py).
-/
namespace Go.Proofs.Ytekddgmmfgpehaa.hd
open Go.RowKit aid mem opn Go.ChangeShapes Go.WideShapes Go.ChangeAt
set_option linter.unusedVariables false
set_option linter.unusedSimpArgs false

structure OpV where
  num : Int
  b : Option Addr × Nat × Nat × List Int
instance : Inhabited OpV := ⟨⟨0, (none, 0, 0, [])⟩⟩
theorem cells_i64 : Try.prog.cellsOf 3 = 1 := by kernel_rfl
theorem cells_u32 : Try.prog.cellsOf 22 = 1 := by kernel_rfl
theorem cells_op : Try.prog.cellsOf 26 = 2 := by kernel_rfl
theorem cells_bts : Try.prog.cellsOf 24 = 1 := by kernel_rfl
theorem cells_u8 : Try.prog.cellsOf 5 = 1 := by kernel_rfl
def OpOk (w : World) (q : OpV) : Prop := (0 ≤ q.num ∧ q.num ≤ 4294967295) ∧ SlA .u8 w q.b.1 q.b.2.1 q.b.2.2.1 q.b.2.2.2
def OpIs (w : World) (cs : List Value) (q : OpV) : Prop := cs = [.int .u32 q.num, .slice q.b.1 q.b.2.1 q.b.2.2.1] ∧ OpOk w q
/-- they lie where the slice leads -/
structure OpA (w : World) (a : Option Addr) (n cap : Nat) (l : List OpV) : Prop where
  len : l.length = n
  le : n ≤ cap
  most : cap ≤ maxLen
  cells : 0 < n → ∃ b off, a = some ⟨b, off, none⟩ ∧ ∀ i, i < n → w.cell? ⟨b, off + i * 2, none⟩ = some (.int .u32 (l.getD i default).num) ∧ w.cell? ⟨b, off + i * 2 + 1, none⟩ = some (.slice (l.getD i default).b.1 (l.getD i default).b.2.1 (l.getD i default).b.2.2.1) ∧ OpOk w (l.getD i default)
section
variable {H : Type} {enc : TypeId × Value → H} {w : World} {base : Nat}
set_option maxRecDepth 100000 in
theorem op_of (n : Nat) (cs : List Value) (d : DataW H) (p : List MemPlace)
    (h : DataW.trod enc Try.prog w base (fun _ => true) true n 26 cs = some (d, p)) : ∃ q : OpV, OpIs w cs q ∧ True := by
  obtain ⟨xs, m, _, hx, hl, hxl, hf⟩ := DataW.trod_struct Try.underlying26 h
  rw [cells_op] at hl
  have h0 := hf 0 _ rfl
  have h1 := hf 1 _ rfl
  match cs, hl, xs, hxl with
  | [c0, c1], _, [x0, x1], _ =>
    simp [cells_i64, cells_u32, cells_bts] at h0 h1
    obtain ⟨v0, hv0, _, hw0⟩ := DataW.trod_int Try.underlying22 h0
    injection hv0 with hv0 _
    have key1 : ∃ (a : Option Addr) (len cap : Nat) (l : List Int), c1 = .slice a len cap ∧ SlA .u8 w a len cap l := by
      rcases open_ints Try.underlying24 Try.underlying5 cells_u8 h1 with ⟨hcs, _⟩ | ⟨a, len, cap, zs, hcs, _, hl, hm, hz, _, hcell, hwz⟩
      · injection hcs with hcs _
        exact ⟨none, 0, 0, [], hcs, sl_of_row (.inl ⟨rfl, rfl, rfl, rfl⟩)⟩
      · injection hcs with hcs _
        exact ⟨some a, len, cap, zs.take len, hcs, sl_of_row (.inr ⟨_, rfl, hl, hm, by simpa using hz, hcell, hwz⟩)⟩
    obtain ⟨a1, n1, k1, l1, hv1, hb1⟩ := key1
    subst hv0 hv1
    exact ⟨⟨v0, (a1, n1, k1, l1)⟩, ⟨rfl, bounds_u32 hw0, hb1⟩, trivial⟩
theorem opa_of_els {a : Option Addr} {len cap : Nat} {l : List OpV} (h : ElA (OpIs w) 2 w a len cap l) : OpA w a len cap l := by
  refine ⟨h.len, h.le, h.most, fun h0 => ?_⟩
  obtain ⟨b, off, ha, hc⟩ := h.cells h0
  refine ⟨b, off, ha, fun i hi => ?_⟩
  have hil : i < l.length := by rw [h.len]; exact hi
  obtain ⟨cs, hR, _, hj⟩ := hc i hil
  have hg : l.getD i default = l[i] := by simp [List.getD, hil]
  obtain ⟨rfl, hok⟩ := hR
  rw [hg]
  have h0 := hj 0 (by omega)
  have h1 := hj 1 (by omega)
  exact ⟨by simpa using h0, by simpa [Nat.add_assoc] using h1, hok⟩
theorem open_ops {a : Option Addr} {len cap : Nat} {d : DataW H} {p : List MemPlace}
    (h : ∃ fuel, DataW.trod enc Try.prog w base (fun _ => true) true fuel 23 [.slice a len cap] = some (d, p)) :
    ∃ l : List OpV, OpA w a len cap l ∧ True := by
  obtain ⟨l, hl, _⟩ := open_els (R := OpIs w) (D := fun _ _ => True) Try.underlying23 (by rw [cells_op]; omega) h op_of
  rw [cells_op] at hl
  exact ⟨l, opa_of_els hl, trivial⟩
set_option maxRecDepth 100000 in
theorem open_op {b0 : Nat} {v : Value} {d : DataW H} {p : List MemPlace} (hv : Value.okWide Try.prog w .any b0 26 v)
    (hk : DataW.Trod enc Try.prog w base (fun _ => true) true 26 v d p) : ∃ s : {q : OpV // OpOk w q}, v = .agg #[.int .u32 s.1.num, .slice s.1.b.1 s.1.b.2.1 s.1.b.2.2.1] := by
  obtain ⟨cs, rfl, hsz⟩ := okWide_struct Try.underlying26 hv
  obtain ⟨fuel, h⟩ := hk
  obtain ⟨q, ⟨hq, hok⟩, _⟩ := op_of fuel _ d p h
  have : cs = #[.int .u32 q.num, .slice q.b.1 q.b.2.1 q.b.2.2.1] := by
    apply Array.toList_inj.1
    simpa [Value.cells] using hq
  subst this
  exact ⟨⟨q, hok⟩, rfl⟩
end
end Go.Proofs.Ytekddgmmfgpehaa.hd
/-!   Heard: one of one's own; known; HeardNone.
-/
namespace Go.Proofs.Ytekddgmmfgpehaa.hd
open Go.RowKit Go.Shelf aid mem rng sp rn
attribute [local go_sem ↓] Go.wp_at_zero Go.wp_at_succ
set_option linter.unusedVariables false
set_option linter.unusedSimpArgs false

/-- one of one's own -/
structure KS (w : World) (B : Nat) (m : Hb) (x : Hd) (W : World) : Prop where
  h : HdAt W B m x
  below : Below w.heap.size w W
  own : ∀ b ∈ B :: parts m, w.heap.size ≤ b
theorem KS.later {w W W' : World} {B : Nat} {m : Hb} {x : Hd} (h : KS w B m x W) (hb : Below W.heap.size W W') : KS w B m x W' := ⟨h.h.later hb, h.below.trans (hb.mono h.below.size), h.own⟩
theorem KS.took {w W W' : World} {B : Nat} {m : Hb} {x x' : Hd} {v : Value} {e : Ending} (h : KS w B m x W) (r : RetK v B m x' W e W') : e = .returned v ∧ ∃ m', KS w B m' x' W' ∧ Kept (B :: parts m) W W' := by
  obtain ⟨r1, m', r2, r3, r4⟩ := r
  refine ⟨r1, m', ⟨r2, h.below.trans (r3.below h.own h.below.size), fun b hb => ?_⟩, r3⟩
  have hz := h.below.size
  simp only [List.mem_cons] at hb
  rcases hb with rfl | hb
  · exact h.own _ (by simp)
  · rcases r4 b (by simpa using hb) with q | q
    · exact h.own b (by simp only [List.mem_cons]; exact .inr (by simpa using q))
    · omega
theorem wpList_make_u8 {P : Program} {w : World} {ops : Array Oper} {rest : List Oper} {o : Oper} {a : Act} {Q : Exit → Act → World → Prop} (hgd : o.guard = none) (l c : Operand) (t : TypeId) (hop : o.op = Op.makeSlice t l c)
    (e : TypeId) (i : TypeInfo) (h1 : P.underlying t = some (.slice e)) (h2 : P.info? e = some i) (h3 : i.zero = some (.int .u8 0)) (h4 : i.size = 1) (h5 : i.bytes = 1) (n : Nat) (he : e = 5) (hn : n ≤ 1000000) (hl : a.eval l = .int .i64 (n : Int)) (hc : a.eval c = .int .i64 (n : Int))
    (h : ∀ w', RgAt w' w.heap.size (List.replicate n 0) [] → Below w.heap.size w w' → wpList P ops Q rest (a.put o.dst (.slice (some ⟨w.heap.size, 0, none⟩) n n)) w') : wpList P ops Q (o :: rest) a w :=
  wpList_plain hgd fun _ hK => by
    obtain ⟨w', hrun, r1, r2⟩ := run_make_u8 (P := P) w t e i h1 h2 h3 h4 h5 he n hn
    unfold Oper.wp
    simp [execOp, hop, hl, hc, hrun, Result.andThen]
    exact hK _ _ (h w' r1 r2)
abbrev x0 : Hd := ⟨5, 100, [], fun _ => 0⟩
abbrev p1 : List Int := List.replicate 10 0
abbrev p2 : List Int := List.replicate 12 0
def x1 : Hd := tk x0 15 p1
def x2 : Hd := tk x1 5 p2
theorem kn1 : td x0 15 p1.length = ⟨(10, 20), 10, (0, 0)⟩ ∧ (pl x0 15 p1.length).1 = 0 := ⟨by kernel_rfl, by kernel_rfl⟩
theorem kn2 : td x1 5 p2.length = ⟨(0, 12), 10, (10, 12)⟩ ∧ (pl x1 5 p2.length).1 = 0 := ⟨by kernel_rfl, by kernel_rfl⟩
theorem kn3 : nx x2.l = 20 ∧ nx x1.l = 0 ∧ x1.l.length = 1 := ⟨by kernel_rfl, by kernel_rfl, by kernel_rfl⟩
theorem rg_new {w w' : World} {B : Nat} {m : Hb} {x : Hd} {W : World} {n : Nat} (h : KS w B m x W) (hb : Below W.heap.size W w') : ∀ y : Addr, some (⟨W.heap.size, 0, none⟩ : Addr) = some y → 0 < n → y.block ∉ B :: parts m := fun y hy _ e => by
  injection hy with hy
  subst hy
  have := h.h.lt _ e
  dsimp only at this
  omega
def far4 (T : TypeId) : Bool := T != 63 && T != 5 && T != 90 && T != 36
def KT (w W : World) (B : Nat) (x' : Hd) (v : Value) (e : Ending) (w' : World) : Prop := e = .returned v ∧ ∃ m', KS w B m' x' w' ∧ ∀ (b : Nat) (cs : Array Value) (T : TypeId), W.heap[b]? = some (.cells cs T (0, 0)) → far4 T = true → w'.heap[b]? = some (.cells cs T (0, 0))
theorem KS.far {w W W' : World} {B : Nat} {m : Hb} {x : Hd} (h : KS w B m x W) (hk : Kept (B :: parts m) W W') : ∀ (b : Nat) (cs : Array Value) (T : TypeId), W.heap[b]? = some (.cells cs T (0, 0)) → far4 T = true → W'.heap[b]? = some (.cells cs T (0, 0)) := fun b cs T hb hT => by
  unfold far4 at hT
  simp at hT
  exact hk.heap (h.h.typ hb hT.1.1.1 hT.1.1.2 hT.1.2 hT.2) hb
/-- bytes of a new row -/
theorem ks_take {w W W' : World} {B : Nat} {m : Hb} {x : Hd} (h : KS w B m x W) (hz : nx x.l ≤ 1000000000) (hl : x.l.length ≤ 4000) (num : Int) (hnum : 0 ≤ num ∧ num ≤ 4294967295) {n : Nat} {p : List Int} (hg : RgAt W' W.heap.size p []) (hp : p.length = n) (hn : n ≤ 1000000) (hb : Below W.heap.size W W') :
    Calls Try.prog 9 #[.pointer (some ⟨B, 0, none⟩), .int .u32 num, .slice (some ⟨W.heap.size, 0, none⟩) n n] W' (KT w W' B (tk x num p) (.tuple #[.agg (tdC (td x num p.length)), .int .i64 (pl x num p.length).1])) :=
  (take_any (h.later hb).h hz hl num hnum (rg_sla hg hp (Nat.le_refl _) (by unfold maxLen; omega)) (rg_new h hb)).mono fun e w' q => by
    obtain ⟨r1, m', r2, r3⟩ := (h.later hb).took q
    exact ⟨r1, m', r2, (h.later hb).far r3⟩
set_option maxRecDepth 100000 in
set_option maxHeartbeats 4000000 in
theorem known_any (w : World) : Calls Try.prog 7 #[] w (EqP w) := by
  obtain ⟨i0, hi, hz0, hz1, hz2⟩ := info_split8
  have HN := Lib.hid (show Calls Try.prog 8 #[.int .u32 5, .int .i64 100] w (RetN 5 100 w) from new_ok 5 100 (by decide) (by decide) w)
  unfold RetN at HN
  have HT1 := Lib.hid (fun B m W W' (h : KS w B m x0 W) (hg : RgAt W' W.heap.size p1 []) (hb : Below W.heap.size W W') => show Calls Try.prog 9 #[.pointer (some ⟨B, 0, none⟩), .int .u32 15, .slice (some ⟨W.heap.size, 0, none⟩) 10 10] W' (KT w W' B x1 (.tuple #[.agg #[.int .i64 10, .int .i64 20, .int .i64 10, .bool false, .int .i64 0, .int .i64 0], .int .i64 0])) from by
    have := ks_take h (by decide) (by decide) 15 (by decide) hg (n := 10) rfl (by decide) hb
    rw [kn1.1, kn1.2] at this
    exact this)
  have HT2 := Lib.hid (fun B m W W' (h : KS w B m x1 W) (hg : RgAt W' W.heap.size p2 []) (hb : Below W.heap.size W W') => show Calls Try.prog 9 #[.pointer (some ⟨B, 0, none⟩), .int .u32 5, .slice (some ⟨W.heap.size, 0, none⟩) 12 12] W' (KT w W' B x2 (.tuple #[.agg #[.int .i64 0, .int .i64 12, .int .i64 10, .bool true, .int .i64 10, .int .i64 12], .int .i64 0])) from by
    have := ks_take h (by rw [kn3.2.1]; decide) (by rw [kn3.2.2]; decide) 5 (by decide) hg (n := 12) rfl (by decide) hb
    rw [kn2.1, kn2.2] at this
    exact this)
  have HNX := Lib.hid (fun B m W (h : KS w B m x2 W) => show Calls Try.prog 14 #[.pointer (some ⟨B, 0, none⟩)] W fun e w' => e = .returned (.int .i64 20) ∧ W = w' from by
    have := next_q h.h
    rw [kn3.1] at this
    exact this)
  unfold KT at HT1 HT2
  go_enter Try.func7, Try.ntmps7
  go_upto_region 4 with (go_at_call 8; (with_reducible refine HN.out.mono ?_); rintro e w1 ⟨B, m, rfl, h1, h2, h3⟩)
  have S0 := Lib.hid (show KS w B m x0 w1 from ⟨h1, h2, h3⟩)
  clear h1 h2 h3 HN
  go_upto_region 5 with (first
    | (at_make; go_must (refine wpList_make_u8 rfl (.const (.int .i64 10)) (.const (.int .i64 10)) 24 rfl 5 i0 Try.underlying24 hi hz0 hz1 hz2 10 rfl (by decide) rfl rfl ?_); intro w2 hg2 hb2)
    | (go_at_call 9; (with_reducible refine (HT1.out _ _ _ _ S0.out hg2 hb2).mono ?_); rintro e w3 ⟨rfl, m2, S1, _⟩))
  have T1 := heap_alloc_new w3 (.cells #[.int .i64 10, .int .i64 20, .int .i64 10, .bool false, .int .i64 0, .int .i64 0] 38)
  have S2 := Lib.hid (S1.later (bal (.cells #[.int .i64 10, .int .i64 20, .int .i64 10, .bool false, .int .i64 0, .int .i64 0] 38)))
  clear S0 hg2 hb2 S1 HT1
  generalize w3.alloc (.cells #[.int .i64 10, .int .i64 20, .int .i64 10, .bool false, .int .i64 0, .int .i64 0] 38) = W3 at *
  generalize w3.heap.size = b3 at *
  go_upto_region 6 with (first
    | (at_make; go_must (refine wpList_make_u8 rfl (.const (.int .i64 12)) (.const (.int .i64 12)) 24 rfl 5 i0 Try.underlying24 hi hz0 hz1 hz2 12 rfl (by decide) rfl rfl ?_); intro w4 hg4 hb4)
    | (go_at_call 9; (with_reducible refine (HT2.out _ _ _ _ S2.out hg4 hb4).mono ?_); rintro e w5 ⟨rfl, m3, S3, hfar⟩))
  have T2 := hfar b3 _ _ ((hb4.block _ (lt_of_block T1)).trans T1) (by decide)
  have b6 := bal (w := w5) (.cells #[.int .i64 0, .int .i64 12, .int .i64 10, .bool true, .int .i64 10, .int .i64 12] 38)
  have T3 := heap_alloc_new w5 (.cells #[.int .i64 0, .int .i64 12, .int .i64 10, .bool true, .int .i64 10, .int .i64 12] 38)
  have S4 := Lib.hid (S3.later b6)
  have T4 := (b6.block _ (lt_of_block T2)).trans T2
  clear S2 hg4 hb4 S3 HT2 T1 T2 hfar b6
  generalize w5.alloc (.cells #[.int .i64 0, .int .i64 12, .int .i64 10, .bool true, .int .i64 10, .int .i64 12] 38) = W5 at *
  generalize w5.heap.size = b5 at *
  have c2 := cofr T4 2 _ rfl
  have d2 := cofr T3 2 _ rfl; have d3 := cofr T3 3 _ rfl; have d4 := cofr T3 4 _ rfl; have d5 := cofr T3 5 _ rfl
  have hg := eq_guard
  go_wp2_with (go_at_call 14; (with_reducible refine (HNX.out _ _ _ S4.out).mono ?_); rintro e w6 ⟨rfl, rfl⟩)
  go_ret
  exact ⟨rfl, S4.out.below⟩
theorem known_b {w0 w : World} (hb : Below w0.heap.size w0 w) : Calls Try.prog 7 #[] w (EqP w0) := (known_any w).mono fun x w' ⟨h1, h2⟩ => ⟨h1, hb.trans (h2.mono hb.size)⟩
set_option maxRecDepth 100000 in
set_option maxHeartbeats 4000000 in
theorem take_nil (w : World) (num : Int) (a : Option Addr) (n cap : Nat) : Calls Try.prog 9 #[.pointer none, .int .u32 num, .slice a n cap] w fun e w' => e = .returned (.tuple #[.agg #[.int .i64 0, .int .i64 0, .int .i64 0, .bool false, .int .i64 0, .int .i64 0], .int .i64 1]) ∧ Below w.heap.size w w' := by
  have hb := bal (w := w) tdZ
  have hr := heap_alloc_new w tdZ
  have HPL := Lib.hid (fun X => place_nil X num n)
  go_enter Try.func9, Try.ntmps9
  go_upto_region 2 with (go_at_call 20; (with_reducible refine (HPL.out _).mono ?_); rintro e w1 ⟨rfl, hb1⟩)
  have b2 := bal (w := w1) (.cells #[.int .i64 0, .int .i64 0] 36)
  have hb12 := hb1.trans (b2.mono hb1.size)
  have hr2 := (hb12.block _ (lt_of_block hr)).trans hr
  have hbW := hb.trans (hb12.mono hb.size)
  clear hb12 hb1 b2 hr hb HPL
  generalize w1.alloc (.cells #[.int .i64 0, .int .i64 0] 36) = W at *
  obtain ⟨⟨c0, c1, c2, c3, c4, c5⟩, f0, f1, f2, f3, f4, f5⟩ := t6_z hr2
  go_wp2_with fail
  have hk6 := put6_kept w.heap.size (.int .i64 0) (.int .i64 0) (.int .i64 0) (.bool false) (.int .i64 0) (.int .i64 0) W
  exact bodyPost_ret (v := .tuple #[.agg #[.int .i64 0, .int .i64 0, .int .i64 0, .bool false, .int .i64 0, .int .i64 0], .int .i64 1]) (by simp [results, Try.results9, go_sem, c0, c1, c2, c3, c4, c5]) rfl ⟨rfl, hbW.trans (hk6.below (B := w.heap.size) (by simp) hbW.size)⟩
set_option maxRecDepth 100000 in
set_option maxHeartbeats 4000000 in
theorem walk_HeardNone (w : World) (s : {q : OpV // OpOk w q}) : Calls Try.prog 6 #[.agg #[.int .u32 s.1.num, .slice s.1.b.1 s.1.b.2.1 s.1.b.2.2.1]] w fun e w' => e = .returned (.bool true) ∧ Below w.heap.size w w' := by
  obtain ⟨q, hq⟩ := s
  dsimp only at *
  have hb := bal (w := w) (.cells #[.int .u32 q.num, .slice q.b.1 q.b.2.1 q.b.2.2.1] 26)
  have hx := heap_alloc_new w (.cells #[.int .u32 q.num, .slice q.b.1 q.b.2.1 q.b.2.2.1] 26)
  have HX := Lib.hid (fun X (hX : Below (w.alloc (.cells #[.int .u32 q.num, .slice q.b.1 q.b.2.1 q.b.2.2.1] 26)).heap.size (w.alloc (.cells #[.int .u32 q.num, .slice q.b.1 q.b.2.1 q.b.2.2.1] 26)) X) => show X.cell? ⟨w.heap.size, 0, none⟩ = some (.int .u32 q.num) ∧ X.cell? ⟨w.heap.size, 1, none⟩ = some (.slice q.b.1 q.b.2.1 q.b.2.2.1) from ⟨cofr ((hX.block _ (lt_of_block hx)).trans hx) 0 _ rfl, cofr ((hX.block _ (lt_of_block hx)).trans hx) 1 _ rfl⟩)
  have HTN := Lib.hid (fun X => take_nil X q.num q.b.1 q.b.2.1 q.b.2.2.1)
  have HLA := Lib.hid (fun X => labove_nil X)
  have HBN := Lib.hid (fun X => hbytes_nil X)
  unfold rn.Told at HLA
  unfold RetI at HBN
  unfold EqP at *
  clear hq hx
  go_enter Try.func6, Try.ntmps6
  go_upto_region 4 with (go_at_call 7; (with_reducible refine (known_any _).mono ?_); rintro e w1 ⟨rfl, hb1⟩)
  obtain ⟨c0, c1⟩ := HX.out _ hb1
  have hbw := Lib.hid (hb.trans (hb1.mono hb.size))
  clear hb hb1 HX
  go_upto_region 5 with (go_at_call 9; (with_reducible refine (HTN.out _).mono ?_); rintro e w2 ⟨rfl, hb2⟩)
  have hb3 := hbw.out.trans (hb2.mono hbw.out.size)
  have hb4 := hb3.trans ((bal (w := w2) tdZ).mono hb3.size)
  unfold tdZ at hb4
  clear c0 c1 hb2 hb3 hbw HTN
  generalize w2.alloc (.cells #[.int .i64 0, .int .i64 0, .int .i64 0, .bool false, .int .i64 0, .int .i64 0] 38) = W2 at *
  have HB4 := Lib.hid hb4
  clear hb4
  go_wp2_with (first
    | (go_at_call 14; (with_reducible refine (next_nil _).mono ?_); rintro e w3 ⟨rfl, rfl⟩)
    | (go_at_call 12; (with_reducible refine (HBN.out _).mono ?_); rintro e w4 ⟨rfl, hb5⟩; have HB5 := Lib.hid (HB4.out.trans (hb5.mono HB4.out.size)); clear hb5)
    | (go_at_call 16; (with_reducible refine (text_nil _).mono ?_); rintro e w3 ⟨rfl, rfl⟩)
    | (go_at_call 18; (with_reducible refine (HLA.out _).mono ?_); rintro e w5 ⟨v, rfl, o1, hb6⟩; obtain ⟨a6, c6, rfl, _, _⟩ := sls_of_own o1; have HB6 := Lib.hid (HB5.out.trans (hb6.mono HB5.out.size)); clear hb6 o1)
    | (go_at_call 13; (with_reducible refine (clone_nil _).mono ?_); rintro e w3 ⟨rfl, rfl⟩)
    | (go_at_call 7; (with_reducible refine (known_b HB6.out).mono ?_); rintro e w7 ⟨rfl, hb7⟩))
  go_ret
  exact ⟨rfl, hb7⟩
end Go.Proofs.Ytekddgmmfgpehaa.hd
/-!   Heard: pieces of a text, as lists.
-/
namespace Go.Proofs.Ytekddgmmfgpehaa.hd
open Go.RowKit Go.Shelf aid mem rng sp rn
set_option linter.unusedVariables false
set_option linter.unusedSimpArgs false

theorem unw_near {n f : Int} (h0 : 0 ≤ n) (h1 : n ≤ 1000000000) (h2 : 0 ≤ f) (h3 : f ≤ 1000000000) : sq.unw n f = (f, true) := by
  have e1 : sq.m32 n = n := by unfold sq.m32; omega
  have e2 : sq.dist n f = f - n := by unfold sq.dist; omega
  unfold sq.unw
  rw [e1, e2, show n + (f - n) = f by omega]
  have i1 : sq.isMay n = true := by unfold sq.isMay; rw [decide_eq_true_iff]; omega
  have i2 : sq.isMay f = true := by unfold sq.isMay; rw [decide_eq_true_iff]; omega
  rw [if_pos i1, if_pos i2]
theorem num_at {first f : Int} (hf : 0 ≤ first ∧ first ≤ 4294967295) (h2 : 0 ≤ f) (h3 : f ≤ 1000000000) : sq.m32 ((first + f) % 4294967296 - first) = f := by unfold sq.m32; omega
/-- a piece of a text at its place -/
theorem pl_at {x : Hd} (h : Ok x) (hz : nx x.l ≤ 1000000000) {f : Int} {n : Nat} (h0 : 0 ≤ f) (h3 : f ≤ 1000000000) (hn : 1 ≤ n) (hn2 : n ≤ 2048) (hr : f + n ≤ nx x.l + x.room) : pl x ((x.first + f) % 4294967296) n = (0, (f, f + n)) := by
  unfold pl
  rw [if_neg (by omega), if_neg (by omega), num_at h.f h0 h3, unw_near (nx_spec h.l).1 hz h0 h3]
  simp only [if_true]
  rw [if_neg (by omega)]
structure At (x x' : Hd) (f : Int) (p : List Int) : Prop where
  ok : Ok x'
  len : x'.l.length ≤ x.l.length + 1
  inn : ∀ o, In x'.l o ↔ In x.l o ∨ (f ≤ o ∧ o < f + p.length)
  ab : ∀ o, x'.ab o = if inB x.l o = true then x.ab o else if f ≤ o ∧ o < f + p.length then p.getD (o - f).toNat 0 else x.ab o
  room : x'.room = x.room
  first : x'.first = x.first
  bytes : bytesL x'.l - bytesL x.l = (p.length : Int) - withinL x.l (f, f + p.length)
theorem tk_at {x : Hd} (h : Ok x) (hz : nx x.l ≤ 1000000000) {f : Int} {p : List Int} (h0 : 0 ≤ f) (h3 : f ≤ 1000000000) (hn : 1 ≤ p.length) (hn2 : p.length ≤ 2048) (hr : f + p.length ≤ nx x.l + x.room) :
    At x (tk x ((x.first + f) % 4294967296) p) f p ∧ td x ((x.first + f) % 4294967296) p.length = ⟨(f, f + p.length), (p.length : Int) - withinL x.l (f, f + p.length), meetP (nextL x.l f) (f, f + p.length)⟩ := by
  have hp := pl_at h hz h0 h3 hn hn2 hr
  have hk := tk_ok1 (num := (x.first + f) % 4294967296) (p := p) h hz
  have hs : ROk (f, f + (p.length : Int)) := by unfold ROk; simp only; omega
  obtain ⟨w1, w2, w3⟩ := wi_spec h.l hs
  have hw : bytesL (refWi x.l (f, f + (p.length : Int))) - bytesL x.l = (p.length : Int) - withinL x.l (f, f + p.length) := by
    rw [w3, len_rok hs]; simp only; omega
  have e1 : tk x ((x.first + f) % 4294967296) p = { x with l := refWi x.l (f, f + p.length), ab := lay x.l x.ab f p } := by unfold tk; rw [hp]; rfl
  refine ⟨⟨hk.1, hk.2.1, fun o => ?_, fun o => ?_, hk.2.2.2.2.1, hk.2.2.2.2.2, ?_⟩, ?_⟩
  · rw [e1]; exact w2 o
  · rw [e1]; rfl
  · rw [e1]; exact hw
  · unfold td
    rw [hp]
    simp only [if_true]
    rw [hw]
theorem rn_one {n : Nat} (h : 1 ≤ n) (h2 : n ≤ 1000000) : Rn [((0 : Int), (n : Int))] := ⟨fun x hx => by simp at hx; subst hx; unfold ROk; simp only; omega, List.pairwise_singleton _ _⟩
theorem in_one {n : Nat} {o : Int} : In [((0 : Int), (n : Int))] o ↔ 0 ≤ o ∧ o < n := by rw [In.one]
theorem nx_one {n : Nat} (h : 1 ≤ n) (h2 : n ≤ 1000000) : nx [((0 : Int), (n : Int))] = n :=
  nx_eq (rn_one h h2) (by omega) (fun k h0 h1 => in_one.2 ⟨h0, h1⟩) (fun q => by have := in_one.1 q; omega)
theorem txt_at {x : Hd} {t : List Int} {n : Nat} (hn : nx x.l = n) (ht : t.length = n) (h : ∀ i : Nat, i < n → x.ab i = t.getD i 0) : txt x = t := by
  refine List.ext_getElem (by rw [txt_len, hn, ht]; simp) (fun i h1 h2 => ?_)
  simp only [txt, List.getElem_map, List.getElem_range]
  rw [h i (by omega)]
  simp [List.getD, h2]
/-- what is had, and what comes behind it -/
def wnt (p q : List Int) (f : Nat) : List Int := if p.length < f + q.length then p ++ q.drop (p.length - f) else p
theorem wnt_len {p q : List Int} {f : Nat} (hf : f ≤ p.length) : (wnt p q f).length = max p.length (f + q.length) := by
  unfold wnt
  split
  · rw [List.length_append, List.length_drop]; omega
  · omega
abbrev xk0 (first : Int) : Hd := ⟨first, 65536, [], fun _ => 0⟩
structure Kp2 (first : Int) (x1 x2 : Hd) (p q : List Int) (f : Nat) : Prop where
  a1 : nx x1.l ≤ 1000000 ∧ x1.l.length ≤ 2
  e1 : (pl (xk0 first) first p.length).1 = 0
  e2 : (pl x1 ((first + f) % 4294967296) q.length).1 = 0
  t2 : txt x2 = wnt p q f
  z2 : nx x2.l ≤ 1000000
  fr : (td x1 ((first + f) % 4294967296) q.length).fresh = ((wnt p q f).length : Int) - p.length
  du : decide (0 < lenI (td x1 ((first + f) % 4294967296) q.length).dup) = decide ((f : Int) < p.length)
theorem keeps_math {first : Int} (hf : 0 ≤ first ∧ first ≤ 4294967295) {p q : List Int} (hp : 1 ≤ p.length) (hp2 : p.length ≤ 2000) (hq : 1 ≤ q.length) (hq2 : q.length ≤ 2000) {f : Nat} (hfl : f ≤ p.length) : Kp2 first (tk (xk0 first) first p) (tk (tk (xk0 first) first p) ((first + f) % 4294967296) q) p q f := by
  have o0 : Ok (xk0 first) := ok_new hf (by omega)
  have n0 : nx (xk0 first).l = 0 := nx_nil
  have hfe : (first + 0) % 4294967296 = first := by omega
  have A := tk_at (x := xk0 first) o0 (by rw [n0]; omega) (f := 0) (p := p) (by omega) (by omega) hp (by omega) (by rw [n0]; show (0 : Int) + _ ≤ 0 + (65536 : Nat); omega)
  have P1 := pl_at (x := xk0 first) o0 (by rw [n0]; omega) (f := 0) (n := p.length) (by omega) (by omega) hp (by omega) (by rw [n0]; show (0 : Int) + _ ≤ 0 + (65536 : Nat); omega)
  simp only [show (xk0 first).first = first from rfl, hfe] at A P1
  generalize hx1 : tk (xk0 first) first p = x1 at *
  obtain ⟨A, _⟩ := A
  have l1 : x1.l = [((0 : Int), (p.length : Int))] := Rn.ext A.ok.l (rn_one hp (by omega)) (fun o => by
    rw [A.inn, in_one]
    constructor
    · rintro (q | q)
      · exact (In.nil q).elim
      · omega
    · intro q; right; omega)
  have n1 : nx x1.l = p.length := by rw [l1]; exact nx_one hp (by omega)
  have B := tk_at (x := x1) A.ok (by rw [n1]; omega) (f := (f : Int)) (p := q) (by omega) (by omega) hq (by omega) (by rw [n1, A.room]; show _ ≤ (p.length : Int) + (65536 : Nat); omega)
  have P2 := pl_at (x := x1) A.ok (by rw [n1]; omega) (f := (f : Int)) (n := q.length) (by omega) (by omega) hq (by omega) (by rw [n1, A.room]; show _ ≤ (p.length : Int) + (65536 : Nat); omega)
  simp only [show x1.first = first from A.first] at B P2
  obtain ⟨B, T⟩ := B
  generalize tk x1 ((first + f) % 4294967296) q = x2 at *
  have hM : 1 ≤ max p.length (f + q.length) := by omega
  have l2 : x2.l = [((0 : Int), ((max p.length (f + q.length) : Nat) : Int))] := Rn.ext B.ok.l (rn_one hM (by omega)) (fun o => by
    rw [B.inn, in_one, l1, in_one]
    omega)
  have n2 : nx x2.l = (max p.length (f + q.length) : Nat) := by rw [l2]; exact nx_one hM (by omega)
  have hwl := wnt_len (p := p) (q := q) hfl
  have hwi : withinL x1.l ((f : Int), (f : Int) + q.length) = (q.length : Int) - (((max p.length (f + q.length) : Nat) : Int) - p.length) := by
    have := B.bytes
    rw [l2, l1] at this
    have e1 : bytesL [((0 : Int), ((max p.length (f + q.length) : Nat) : Int))] = (max p.length (f + q.length) : Nat) := by
      rw [bytes_cons, bytes_nil, len_rok ((rn_one hM (by omega)).ok _ (by simp))]; simp
    have e2 : bytesL [((0 : Int), (p.length : Int))] = p.length := by
      rw [bytes_cons, bytes_nil, len_rok ((rn_one hp (by omega)).ok _ (by simp))]; simp
    rw [e1, e2] at this
    rw [l1]
    omega
  refine ⟨⟨by rw [n1]; omega, by rw [l1]; simp⟩, by rw [P1], by rw [P2], txt_at n2 hwl (fun i hi => ?_), by rw [n2]; omega, by rw [T]; simp only; rw [hwi, hwl]; omega, ?_⟩
  · rw [B.ab]
    by_cases h1 : i < p.length
    · rw [if_pos ((inB_iff A.ok.l _).2 (by rw [l1]; exact in_one.2 (by omega))), A.ab, if_neg (fun q => In.nil ((inB_iff Rn.nil _).1 q)), if_pos (by omega)]
      have e : p.getD ((i : Int) - 0).toNat 0 = p.getD i 0 := by congr 1
      rw [e]
      unfold wnt
      split
      · simp only [List.getD_eq_getElem?_getD]
        rw [List.getElem?_append_left h1]
      · rfl
    · rw [if_neg (fun qq => by have := in_one.1 (by rw [← l1]; exact (inB_iff A.ok.l _).1 qq); omega), if_pos (by omega)]
      unfold wnt
      rw [if_pos (by omega)]
      simp only [List.getD_eq_getElem?_getD]
      rw [List.getElem?_append_right (by omega), List.getElem?_drop]
      congr 2
      omega
  · rw [T]
    simp only
    rw [decide_eq_decide, l1]
    have hk0 : ROk ((0 : Int), (p.length : Int)) := (rn_one hp (by omega)).ok _ (by simp)
    have hs : sp.Ok ((f : Int), (f : Int) + (q.length : Int)) := ⟨by simp only; omega, by simp only; omega, by simp only; omega⟩
    have hnx : nextL [((0 : Int), (p.length : Int))] (f : Int) = if 0 < lenI (fromP ((0 : Int), (p.length : Int)) f) then fromP ((0 : Int), (p.length : Int)) f else (0, 0) := by
      unfold nextL
      rw [List.map_cons, List.map_nil, List.find?_cons]
      split
      · rename_i h; rw [if_pos (by simpa using h)]; rfl
      · rename_i h; rw [if_neg (by simpa using h)]; rfl
    rw [hnx, from_rok hk0.ok]
    have e2 : max (0 : Int) (f : Int) = f := by omega
    simp only [e2]
    have hbl := betw_len (a := (f : Int)) (b := (p.length : Int)) (by omega) (by omega)
    by_cases h1 : (f : Int) < p.length
    · rw [if_pos (by rw [hbl, if_pos h1]; omega)]
      have e3 : betw (f : Int) (p.length : Int) = ((f : Int), (p.length : Int)) := by unfold betw; rw [if_neg (by omega)]
      rw [e3, meet_len ⟨by simp only; omega, by simp only; omega, by simp only; omega⟩ hs]
      simp only
      constructor
      · intro _; exact h1
      · intro _; rw [if_pos (by omega)]; omega
    · rw [if_neg (by rw [hbl, if_neg h1]; omega)]
      rw [meet_len ⟨by simp, by simp, by simp⟩ hs]
      simp only
      constructor
      · intro h; split at h <;> omega
      · intro h; exact (h1 h).elim
end Go.Proofs.Ytekddgmmfgpehaa.hd
/-!   HeardKeeps.
-/
namespace Go.Proofs.Ytekddgmmfgpehaa.hd
open Go.RowKit Go.Shelf aid mem rng sp rn
attribute [local go_sem ↓] Go.wp_at_zero Go.wp_at_succ
set_option linter.unusedVariables false
set_option linter.unusedSimpArgs false

theorem ks_took {w W : World} {B : Nat} {m : Hb} {x : Hd} (h : KS w B m x W) (hz : nx x.l ≤ 1000000000) (hl : x.l.length ≤ 4000) (num : Int) (hnum : 0 ≤ num ∧ num ≤ 4294967295) {a : Option Addr} {n cap : Nat} {p : List Int} (hp : SlA .u8 W a n cap p) (hold : ∀ y, a = some y → 0 < n → y.block < w.heap.size) :
    Calls Try.prog 9 #[.pointer (some ⟨B, 0, none⟩), .int .u32 num, .slice a n cap] W (KT w W B (tk x num p) (.tuple #[.agg (tdC (td x num p.length)), .int .i64 (pl x num p.length).1])) :=
  (take_any h.h hz hl num hnum hp (fun y hy h0 e => by have := h.own _ e; have := hold y hy h0; omega)).mono fun e w' q => by
    obtain ⟨r1, m', r2, r3⟩ := h.took q
    exact ⟨r1, m', r2, h.far r3⟩
theorem sla_old {w : World} {a : Option Addr} {n cap : Nat} {p : List Int} (h : SlA .u8 w a n cap p) : ∀ y, a = some y → 0 < n → y.block < w.heap.size := fun y hy h0 => by
  obtain ⟨b, off, hb, hc⟩ := h.cells (by have := h.le; omega)
  rw [hy] at hb
  injection hb with hb
  subst hb
  exact World.block_lt_of_cell? w _ (hc 0 h0)
theorem known_w (w : World) : Calls Try.prog 7 #[] w fun e w' => e = .returned (.bool true) ∧ Below w.heap.size w w' := known_any w
theorem known_v {w0 w : World} (hb : Below w0.heap.size w0 w) : Calls Try.prog 7 #[] w fun e w' => e = .returned (.bool true) ∧ Below w0.heap.size w0 w' := known_b hb
set_option maxRecDepth 100000 in
set_option maxHeartbeats 8000000 in
theorem walk_HeardKeeps (w : World) (first : Int) (hf : 0 ≤ first ∧ first ≤ 4294967295) (pa : Option Addr) (pn pc : Nat) (pz : List Int) (hpr : IsRow .u8 w pa pn pc pz) (qa : Option Addr) (qn qc : Nat) (qz : List Int) (hqr : IsRow .u8 w qa qn qc qz) (at' : Int) (hat : 0 ≤ at' ∧ at' ≤ 65535) :
    Calls Try.prog 5 #[.int .u32 first, .slice pa pn pc, .slice qa qn qc, .int .u16 at'] w fun e w' => e = .returned (.bool true) ∧ Below w.heap.size w w' := by
  have hp := sl_of_row hpr
  have hq := sl_of_row hqr
  generalize pz.take pn = p at *
  generalize qz.take qn = q at *
  have hpl := hp.len; have hql := hq.len
  have hpm := hp.most; have hqm := hq.most; have hpe := hp.le; have hqe := hq.le
  unfold maxLen at hpm hqm
  have HP := Lib.hid (And.intro hp hq)
  clear hp hq hpr hqr
  by_cases hbad : pn = 0 ∨ 2000 < pn ∨ qn = 0 ∨ 2000 < qn
  · clear hpl hql
    by_cases h1 : pn = 0
    · subst h1
      clear hbad
      go_enter Try.func5, Try.ntmps5
      go_upto_region 4 with (go_at_call 7; (with_reducible refine (known_w _).mono ?_); rintro e w1 ⟨rfl, hb⟩)
      go_wp2_with (go_at_call 7; (with_reducible refine (known_v hb).mono ?_); rintro e w2 ⟨rfl, hb2⟩)
      go_ret
      exact ⟨rfl, hb2⟩
    have e1 : ¬ (pn : Int) = 0 := by omega
    by_cases h2 : 2000 < pn
    · have e2 : (2000 : Int) < (pn : Int) := by omega
      clear hbad
      go_enter Try.func5, Try.ntmps5
      go_upto_region 4 with (go_at_call 7; (with_reducible refine (known_w _).mono ?_); rintro e w1 ⟨rfl, hb⟩)
      go_wp2_with (go_at_call 7; (with_reducible refine (known_v hb).mono ?_); rintro e w2 ⟨rfl, hb2⟩)
      go_ret
      exact ⟨rfl, hb2⟩
    have e2 : ¬ (2000 : Int) < (pn : Int) := by omega
    by_cases h3 : qn = 0
    · subst h3
      clear hbad
      go_enter Try.func5, Try.ntmps5
      go_upto_region 4 with (go_at_call 7; (with_reducible refine (known_w _).mono ?_); rintro e w1 ⟨rfl, hb⟩)
      go_wp2_with (go_at_call 7; (with_reducible refine (known_v hb).mono ?_); rintro e w2 ⟨rfl, hb2⟩)
      go_ret
      exact ⟨rfl, hb2⟩
    have e3 : ¬ (qn : Int) = 0 := by omega
    have e4 : (2000 : Int) < (qn : Int) := by omega
    clear hbad
    go_enter Try.func5, Try.ntmps5
    go_upto_region 4 with (go_at_call 7; (with_reducible refine (known_w _).mono ?_); rintro e w1 ⟨rfl, hb⟩)
    go_wp2_with (go_at_call 7; (with_reducible refine (known_v hb).mono ?_); rintro e w2 ⟨rfl, hb2⟩)
    go_ret
    exact ⟨rfl, hb2⟩
  have e1 : ¬ (pn : Int) = 0 := by omega
  have e2 : ¬ (2000 : Int) < (pn : Int) := by omega
  have e3 : ¬ (qn : Int) = 0 := by omega
  have e4 : ¬ (2000 : Int) < (qn : Int) := by omega
  have h1 : ¬ pn = 0 := by omega
  have h3 : ¬ qn = 0 := by omega
  have h2 : ¬ 2000 < pn := by omega
  have h4 : ¬ 2000 < qn := by omega
  have b1 : ((pn : Int) == 0) = false := by simpa using h1
  have b3 : ((qn : Int) == 0) = false := by simpa using h3
  have d1 : decide ((pn : Int) = 0) = false := by simpa using h1
  have d2 : decide ((2000 : Int) < (pn : Int)) = false := by simpa using e2
  have d3 : decide ((qn : Int) = 0) = false := by simpa using h3
  have d4 : decide ((2000 : Int) < (qn : Int)) = false := by simpa using e4
  -- the place of the second piece
  obtain ⟨A, rfl⟩ : ∃ A : Nat, at' = (A : Int) := ⟨at'.toNat, by omega⟩
  have hmod := Nat.mod_lt A (show 0 < pn + 1 by omega)
  have m2 : (A : Int) % ((pn : Int) + 1) = ((A % (pn + 1) : Nat) : Int) := by simp
  have m1 : (A : Int).tmod ((pn : Int) + 1) = ((A % (pn + 1) : Nat) : Int) := by rw [tmod_pos _ _ (by omega)]; exact m2
  have m3 : ¬ (pn : Int) + 1 = 0 := by omega
  have KM := keeps_math hf (p := p) (q := q) (by omega) (by omega) (by omega) (by omega) (f := A % (pn + 1)) (by omega)
  have hwl := wnt_len (p := p) (q := q) (f := A % (pn + 1)) (by omega)
  generalize A % (pn + 1) = f at *
  have hw1 : IntKind.i64.wrap ((pn : Int) + 1) = (pn : Int) + 1 := IntWalk.i64_in _ (by omega)
  have hw2 : IntKind.i64.wrap (A : Int) = (A : Int) := IntWalk.i64_in _ (by omega)
  have hw3 : IntKind.u32.wrap (f : Int) = (f : Int) := by unfold IntKind.wrap; simp [IntKind.bits, IntKind.signed]; omega
  have hw4 : IntKind.u32.wrap (first + (f : Int)) = (first + (f : Int)) % 4294967296 := by unfold IntKind.wrap; simp [IntKind.bits, IntKind.signed]
  have hw5 : IntKind.i64.wrap ((f : Int) + (qn : Int)) = (f : Int) + (qn : Int) := IntWalk.i64_in _ (by omega)
  have hw6 : IntKind.i64.wrap ((pn : Int) - (f : Int)) = ((pn - f : Nat) : Int) := by rw [IntWalk.i64_in _ (by omega)]; omega
  have HN := Lib.hid (fun X => show Calls Try.prog 8 #[.int .u32 first, .int .i64 65536] X (RetN first 65536 X) from new_ok first 65536 hf (by omega) X)
  unfold RetN at HN
  have K1 := Lib.hid (fun W B m (h : KS w B m (xk0 first) W) => show Calls Try.prog 9 #[.pointer (some ⟨B, 0, none⟩), .int .u32 first, .slice pa pn pc] W fun e w' => ∃ v m', e = .returned (.tuple #[v, .int .i64 0]) ∧ KS w B m' (tk (xk0 first) first p) w' from
    (ks_took h (by show nx [] ≤ _; rw [nx_nil]; omega) (by simp) first hf (HP.out.1.later h.below) (sla_old HP.out.1)).mono fun e w' qq => by
      obtain ⟨r1, m', r2, _⟩ := qq
      rw [KM.e1] at r1
      exact ⟨_, m', r1, r2⟩)
  have K2 := Lib.hid (fun W B m (h : KS w B m (tk (xk0 first) first p) W) => show Calls Try.prog 9 #[.pointer (some ⟨B, 0, none⟩), .int .u32 ((first + (f : Int)) % 4294967296), .slice qa qn qc] W fun e w' => ∃ m' t0 t1 t4 t5 t2 t3, e = .returned (.tuple #[.agg #[.int .i64 t0, .int .i64 t1, .int .i64 t2, .bool t3, .int .i64 t4, .int .i64 t5], .int .i64 0]) ∧ Hid (t2 = ((wnt p q f).length : Int) - pn ∧ t3 = decide ((f : Int) < (pn : Int))) ∧ KS w B m' (tk (tk (xk0 first) first p) ((first + (f : Int)) % 4294967296) q) w' from by
    have := ks_took h (by have := KM.a1.1; omega) (by have := KM.a1.2; omega) ((first + (f : Int)) % 4294967296) (by omega) (HP.out.2.later h.below) (sla_old HP.out.2)
    refine this.mono fun e w' qq => ?_
    obtain ⟨r1, m', r2, _⟩ := qq
    rw [KM.e2, tdC, KM.fr, KM.du, hpl] at r1
    exact ⟨m', _, _, _, _, _, _, r1, Lib.hid ⟨rfl, rfl⟩, r2⟩)
  have HTX := Lib.hid (fun W B m (h : KS w B m (tk (tk (xk0 first) first p) ((first + (f : Int)) % 4294967296) q) W) => show Calls Try.prog 16 #[.pointer (some ⟨B, 0, none⟩)] W (RetT (wnt p q f) W) from by
    have := text_any h.h (by have := KM.z2; omega)
    rw [KM.t2] at this
    exact this)
  unfold RetT at HTX
  generalize tk (tk (xk0 first) first p) ((first + (f : Int)) % 4294967296) q = x2 at *
  generalize tk (xk0 first) first p = x1 at *
  have hm32 : 0 ≤ (first + (f : Int)) % 4294967296 ∧ (first + (f : Int)) % 4294967296 ≤ 4294967295 := by omega
  generalize (first + (f : Int)) % 4294967296 = num2 at *
  obtain ⟨i0, hi, hz0, hz1, hz2⟩ := info_split8
  have HWL := Lib.hid hwl
  clear KM hbad hwl
  go_enter Try.func5, Try.ntmps5
  go_upto_region 5 with (go_at_call 7; (with_reducible refine (known_w _).mono ?_); rintro e w1 ⟨rfl, hb⟩)
  clear d1 d2 d3 d4 b1 b3
  go_upto_region 8 with (first
    | (go_at_call 7; (with_reducible refine (known_w _).mono ?_); rintro e w1 ⟨rfl, hb⟩)
    | (go_at_call 8; (with_reducible refine (HN.out _).mono ?_); rintro e w2 ⟨B, m, rfl, n1, n2, n3⟩))
  have S0 := Lib.hid (show KS w B m (xk0 first) w2 from ⟨n1, hb.trans (n2.mono hb.size), fun b hb' => Nat.le_trans hb.size (n3 b hb')⟩)
  clear n1 n2 n3 hb HN
  go_upto_region 9 with (go_at_call 9; (with_reducible refine (K1.out _ _ _ S0.out).mono ?_); rintro e w3 ⟨v3, m', rfl, s1⟩)
  have S1 := Lib.hid s1
  clear s1 S0 K1
  go_upto_region 10 with fail
  go_upto_region 11 with (go_at_call 9; (with_reducible refine (K2.out _ _ _ S1.out).mono ?_); rintro e w4 ⟨m2, t0, t1, t4, t5, t2, t3, rfl, HFB, s2⟩)
  generalize hto : Obj.cells #[.int .i64 t0, .int .i64 t1, .int .i64 t2, .bool t3, .int .i64 t4, .int .i64 t5] 38 = tob at *
  have T1 := heap_alloc_new w4 tob
  have S2 := Lib.hid (s2.later (bal tob))
  clear s2 S1 K2
  generalize w4.alloc tob = W4 at *
  generalize w4.heap.size = b12 at *
  subst hto
  have c2 := cofr T1 2 _ rfl; have c3 := cofr T1 3 _ rfl
  have hb5 := bal (w := W4) (.cells #[] 5)
  have HSRC := Lib.hid ((HP.out.1.later (S2.out.later hb5).below).src (P := Try.prog) Try.underlying24)
  have HSQ := Lib.hid (fun X (h : Below w.heap.size w X) => HP.out.2.later h)
  go_upto_region 12 with (at_builtin; go_must (refine wpList_append_slr _ rfl (.tmp 63) (.tmp 64) 24 24 rfl 5 i0 (.int .u8 0) 1 1 Try.underlying24 hi hz0 hz1 (by decide) hz2 rfl (some ⟨W4.heap.size, 0, none⟩) 0 0 [] rfl (SlR.sub0 _) (.slice pa pn pc) rfl pn (by omega) (ints .u8 p) HSRC.out (by unfold maxLen; omega) (by omega) ?_); intro wa wc w5 hrow hkp hat2)
  simp only [Nat.zero_add, List.nil_append] at hrow ⊢
  have hb6 : Below W4.heap.size W4 w5 := hb5.trans (hkp.below (by simp [blk_zero]) (by simp))
  have S3 := Lib.hid (S2.out.later hb6)
  have T2 := (hb6.block _ (lt_of_block T1)).trans T1
  have hnew : ∀ b ∈ blk wa wc, W4.heap.size ≤ b := fun b hb => by
    rcases hat2 b hb with e | e
    · simp [blk_zero] at e
    · simp at e; omega
  have HR := Lib.hid (And.intro hrow hnew)
  have HT := Lib.hid T2
  have S2L := Lib.hid (fun b => show (b ∈ B :: parts m2 → b < W4.heap.size) ∧ (b = b12 → b < W4.heap.size) from ⟨S2.out.h.lt b, fun e => by rw [e]; exact lt_of_block T1⟩)
  have HZ4 := Lib.hid S2.out.below.size
  clear c2 c3 hb5 HSRC S2 T1 hrow hkp hat2 hb6 T2 hnew
  by_cases hc : pn < f + qn
  · have hc2 : (pn : Int) < (f : Int) + (qn : Int) := by omega
    have hsl := run_slice_from Try.prog 24 5 i0 Try.underlying24 hi hz1 qa qn qc (pn - f) (by omega)
    have hsl2 := (HSQ.out _ S3.out.below).fromK (pn - f) (by omega)
    generalize (if qc = pn - f then qa else Option.map (fun x => x.add (pn - f)) qa) = qa2 at *
    have HSRC2 := Lib.hid (hsl2.src (P := Try.prog) Try.underlying24)
    clear hsl2
    have hwq : wnt p q f = p ++ q.drop (pn - f) := by unfold wnt; rw [hpl, hql, if_pos (by omega)]
    have hwql : (wnt p q f).length = pn + (qn - (pn - f)) := by rw [hwq, List.length_append, List.length_drop]; omega
    have HWQ := Lib.hid (And.intro hwq hwql)
    clear hwq hwql
    go_upto_region 14 with (at_builtin; go_must (refine wpList_append_slr _ rfl (.tmp 73) (.tmp 79) 24 24 rfl 5 i0 (.int .u8 0) 1 1 Try.underlying24 hi hz0 hz1 (by decide) hz2 rfl wa pn wc _ rfl HR.out.1 (.slice qa2 (qn - (pn - f)) (qc - (pn - f))) rfl (qn - (pn - f)) (by omega) (ints .u8 (q.drop (pn - f))) HSRC2.out (by unfold maxLen; omega) (by omega) ?_); intro wa2 wc2 w6 hrow hkp hat2)
    have hrow2 : BRow w6 wa2 (wnt p q f).length wc2 (wnt p q f) := by
      rw [HWQ.out.2]
      have e : ints .u8 (wnt p q f) = ints .u8 p ++ ints .u8 (q.drop (pn - f)) := by rw [HWQ.out.1]; exact List.map_append
      unfold BRow
      rw [e]
      exact hrow
    have hz4 := S3.out.below.size
    have hbk : ∀ b ∈ blk wa wc, b ∉ B :: parts m2 ∧ b ≠ b12 := fun b hb => by
      have h0 := HR.out.2 b hb
      have h5 := S2L.out b
      exact ⟨fun e => by have := h5.1 e; omega, fun e => by have := h5.2; omega⟩
    have S4 : KS w B m2 x2 w6 := ⟨S3.out.h.keep hkp (fun b hb e => (hbk b e).1 hb), S3.out.below.trans (hkp.below (fun b hb => by have := HR.out.2 b hb; have := S2L.out b; have := HZ4.out; omega) hz4), S3.out.own⟩
    have T3 := hkp.heap (k := b12) (fun e => (hbk _ e).2 rfl) HT.out
    have hN := HWQ.out.2
    generalize pn + (qn - (pn - f)) = N at *
    rw [hN] at hrow2 HTX HFB
    obtain ⟨ht2, ht3⟩ := HFB.out
    subst ht2 ht3
    have hw7 : IntKind.i64.wrap ((N : Int) - (pn : Int)) = (N : Int) - (pn : Int) := IntWalk.i64_in _ (by rw [HWL.out] at hN; omega)
    have HS4 := Lib.hid S4
    have HT3 := Lib.hid T3
    have HR2 := Lib.hid hrow2.sla
    clear hrow hkp hat2 HSRC2 hsl hz4 hbk S4 T3 hrow2 hN HWQ HWL
    generalize w6 = V at *
    have HSM := Lib.hid (fun X a1 a2 c1 c2 (h1 : SlA .u8 X a1 N c1 (wnt p q f)) (h2 : SlA .u8 X a2 N c2 (wnt p q f)) => oc.same_true a1 a2 N c1 c2 (wnt p q f) X h1 h2)
    have c2 := cofr HT3.out 2 _ rfl; have c3 := cofr HT3.out 3 _ rfl
    generalize wnt p q f = TX at *
    go_wp2_with (first
      | (go_at_call 16; (with_reducible refine (HTX.out _ _ _ HS4.out).mono ?_); rintro e w7 ⟨ta, tc, rfl, x1, x2b, _⟩; have HX1 := Lib.hid x1.sla; have HB7 := Lib.hid x2b; clear x1 x2b c2 c3; have c2 := cofr ((HB7.out.block _ (lt_of_block HT3.out)).trans HT3.out) 2 _ rfl; have c3 := cofr ((HB7.out.block _ (lt_of_block HT3.out)).trans HT3.out) 3 _ rfl)
      | (go_at_call 15; (with_reducible refine (HSM.out _ _ _ _ _ HX1.out (HR2.out.later HB7.out)).mono ?_); rintro e w8 ⟨rfl, k, rfl⟩; have HB8 := Lib.hid (below_drewN (HS4.out.below.trans (HB7.out.mono HS4.out.below.size)) k); have c2' : (w7.drewN k).cell? _ = _ := c2; have c3' : (w7.drewN k).cell? _ = _ := c3)
      | (go_at_call 7; (with_reducible refine (known_v HB8.out).mono ?_); rintro e w9 ⟨rfl, hb9⟩))
    go_ret
    exact ⟨rfl, hb9⟩
  · have hc2 : ¬ (pn : Int) < (f : Int) + (qn : Int) := by omega
    have hwq : wnt p q f = p := by unfold wnt; rw [hpl, hql, if_neg (by omega)]
    have hrow2 : BRow w5 wa pn wc (wnt p q f) := by rw [hwq]; exact HR.out.1
    have T3 := HT.out
    have hN : (wnt p q f).length = pn := by rw [hwq, hpl]
    rw [hN] at HTX HFB
    obtain ⟨ht2, ht3⟩ := HFB.out
    subst ht2 ht3
    have hw7 : IntKind.i64.wrap ((pn : Int) - (pn : Int)) = (pn : Int) - (pn : Int) := IntWalk.i64_in _ (by omega)
    have HS4 := Lib.hid S3.out
    have HT3 := Lib.hid T3
    have HR2 := Lib.hid hrow2.sla
    clear T3 hrow2 hN hwq HWL
    generalize w5 = V at *
    have HSM := Lib.hid (fun X a1 a2 c1 c2 (h1 : SlA .u8 X a1 pn c1 (wnt p q f)) (h2 : SlA .u8 X a2 pn c2 (wnt p q f)) => oc.same_true a1 a2 pn c1 c2 (wnt p q f) X h1 h2)
    have c2 := cofr HT3.out 2 _ rfl; have c3 := cofr HT3.out 3 _ rfl
    generalize wnt p q f = TX at *
    go_wp2_with (first
      | (go_at_call 16; (with_reducible refine (HTX.out _ _ _ HS4.out).mono ?_); rintro e w7 ⟨ta, tc, rfl, x1, x2b, _⟩; have HX1 := Lib.hid x1.sla; have HB7 := Lib.hid x2b; clear x1 x2b c2 c3; have c2 := cofr ((HB7.out.block _ (lt_of_block HT3.out)).trans HT3.out) 2 _ rfl; have c3 := cofr ((HB7.out.block _ (lt_of_block HT3.out)).trans HT3.out) 3 _ rfl)
      | (go_at_call 15; (with_reducible refine (HSM.out _ _ _ _ _ HX1.out (HR2.out.later HB7.out)).mono ?_); rintro e w8 ⟨rfl, k, rfl⟩; have HB8 := Lib.hid (below_drewN (HS4.out.below.trans (HB7.out.mono HS4.out.below.size)) k); have c2' : (w7.drewN k).cell? _ = _ := c2; have c3' : (w7.drewN k).cell? _ = _ := c3)
      | (go_at_call 7; (with_reducible refine (known_v HB8.out).mono ?_); rintro e w9 ⟨rfl, hb9⟩))
    go_ret
    exact ⟨rfl, hb9⟩
end Go.Proofs.Ytekddgmmfgpehaa.hd
/-!   Structs that came in, and slices of them (written by gen_open.py).
-/
namespace Go.Proofs.Ytekddgmmfgpehaa.hc
open Go.RowKit aid mem opn Go.ChangeShapes Go.WideShapes Go.ChangeAt
set_option linter.unusedVariables false
set_option linter.unusedSimpArgs false

structure OpV where
  pos : Int
  n : Int
instance : Inhabited OpV := ⟨⟨0, 0⟩⟩
theorem cells_u16 : Try.prog.cellsOf 49 = 1 := by kernel_rfl
theorem cells_op : Try.prog.cellsOf 51 = 2 := by kernel_rfl
def OpOk (q : OpV) : Prop := (0 ≤ q.pos ∧ q.pos ≤ 65535) ∧ (0 ≤ q.n ∧ q.n ≤ 65535)
def OpIs (cs : List Value) (q : OpV) : Prop := cs = [.int .u16 q.pos, .int .u16 q.n] ∧ OpOk q
/-- they lie where the slice leads -/
structure OpA (w : World) (a : Option Addr) (n cap : Nat) (l : List OpV) : Prop where
  len : l.length = n
  le : n ≤ cap
  most : cap ≤ maxLen
  cells : 0 < n → ∃ b off, a = some ⟨b, off, none⟩ ∧ ∀ i, i < n → w.cell? ⟨b, off + i * 2, none⟩ = some (.int .u16 (l.getD i default).pos) ∧ w.cell? ⟨b, off + i * 2 + 1, none⟩ = some (.int .u16 (l.getD i default).n) ∧ OpOk (l.getD i default)
section
variable {H : Type} {enc : TypeId × Value → H} {w : World} {base : Nat}
set_option maxRecDepth 100000 in
theorem op_of (n : Nat) (cs : List Value) (d : DataW H) (p : List MemPlace)
    (h : DataW.trod enc Try.prog w base (fun _ => true) true n 51 cs = some (d, p)) : ∃ q : OpV, OpIs cs q ∧ True := by
  obtain ⟨xs, m, _, hx, hl, hxl, hf⟩ := DataW.trod_struct Try.underlying51 h
  rw [cells_op] at hl
  have h0 := hf 0 _ rfl
  have h1 := hf 1 _ rfl
  match cs, hl, xs, hxl with
  | [c0, c1], _, [x0, x1], _ =>
    simp [cells_u16] at h0 h1
    obtain ⟨v0, hv0, _, hw0⟩ := DataW.trod_int Try.underlying49 h0
    injection hv0 with hv0 _
    obtain ⟨v1, hv1, _, hw1⟩ := DataW.trod_int Try.underlying49 h1
    injection hv1 with hv1 _
    subst hv0 hv1
    exact ⟨⟨v0, v1⟩, ⟨rfl, bounds_u16 hw0, bounds_u16 hw1⟩, trivial⟩
theorem opa_of_els {a : Option Addr} {len cap : Nat} {l : List OpV} (h : ElA OpIs 2 w a len cap l) : OpA w a len cap l := by
  refine ⟨h.len, h.le, h.most, fun h0 => ?_⟩
  obtain ⟨b, off, ha, hc⟩ := h.cells h0
  refine ⟨b, off, ha, fun i hi => ?_⟩
  have hil : i < l.length := by rw [h.len]; exact hi
  obtain ⟨cs, hR, _, hj⟩ := hc i hil
  have hg : l.getD i default = l[i] := by simp [List.getD, hil]
  obtain ⟨rfl, hok⟩ := hR
  rw [hg]
  have h0 := hj 0 (by omega)
  have h1 := hj 1 (by omega)
  exact ⟨by simpa using h0, by simpa [Nat.add_assoc] using h1, hok⟩
theorem open_ops {a : Option Addr} {len cap : Nat} {d : DataW H} {p : List MemPlace}
    (h : ∃ fuel, DataW.trod enc Try.prog w base (fun _ => true) true fuel 48 [.slice a len cap] = some (d, p)) :
    ∃ l : List OpV, OpA w a len cap l ∧ True := by
  obtain ⟨l, hl, _⟩ := open_els (R := OpIs) (D := fun _ _ => True) Try.underlying48 (by rw [cells_op]; omega) h op_of
  rw [cells_op] at hl
  exact ⟨l, opa_of_els hl, trivial⟩
set_option maxRecDepth 100000 in
theorem open_op {b0 : Nat} {v : Value} {d : DataW H} {p : List MemPlace} (hv : Value.okWide Try.prog w .any b0 51 v)
    (hk : DataW.Trod enc Try.prog w base (fun _ => true) true 51 v d p) : ∃ s : {q : OpV // OpOk q}, v = .agg #[.int .u16 s.1.pos, .int .u16 s.1.n] := by
  obtain ⟨cs, rfl, hsz⟩ := okWide_struct Try.underlying51 hv
  obtain ⟨fuel, h⟩ := hk
  obtain ⟨q, ⟨hq, hok⟩, _⟩ := op_of fuel _ d p h
  have : cs = #[.int .u16 q.pos, .int .u16 q.n] := by
    apply Array.toList_inj.1
    simpa [Value.cells] using hq
  subst this
  exact ⟨⟨q, hok⟩, rfl⟩
end
end Go.Proofs.Ytekddgmmfgpehaa.hc
/-!   Heard: pieces of one text, in whatever order, as lists.
-/
namespace Go.Proofs.Ytekddgmmfgpehaa.hd
open Go.RowKit Go.Shelf aid mem rng sp rn
set_option linter.unusedVariables false
set_option linter.unusedSimpArgs false

def cf (t : List Int) (q : hc.OpV) : Nat := min q.pos.toNat t.length
def ce (t : List Int) (q : hc.OpV) : Nat := min t.length (cf t q + q.n.toNat)
def cp (t : List Int) (q : hc.OpV) : List Int := (t.take (ce t q)).drop (cf t q)
def stp (first : Int) (t : List Int) (x : Hd) (q : hc.OpV) : Hd := if cf t q < t.length then tk x ((first + (cf t q : Int)) % 4294967296) (cp t q) else x
theorem cf_le (t : List Int) (q : hc.OpV) : cf t q ≤ ce t q ∧ ce t q ≤ t.length := by
  have : cf t q ≤ t.length := by unfold cf; omega
  unfold ce
  omega
theorem cp_len (t : List Int) (q : hc.OpV) : (cp t q).length = ce t q - cf t q := by
  have := cf_le t q
  unfold cp
  rw [List.length_drop, List.length_take]
  omega
theorem cp_get {t : List Int} {q : hc.OpV} {o : Nat} (h1 : cf t q ≤ o) (h2 : o < ce t q) : (cp t q).getD (o - cf t q) 0 = t.getD o 0 := by
  unfold cp
  rw [List.getD_eq_getElem?_getD, List.getD_eq_getElem?_getD, List.getElem?_drop, List.getElem?_take]
  rw [if_pos (by omega)]
  congr 2
  omega
/-- what is had of a text, some pieces of which came -/
structure PcO (first : Int) (t : List Int) (l : List hc.OpV) (x : Hd) : Prop where
  ok : Ok x
  room : x.room = 65536
  first : x.first = first
  len : x.l.length ≤ l.length
  inn : ∀ o, In x.l o ↔ ∃ q ∈ l, (cf t q : Int) ≤ o ∧ o < (ce t q : Int)
  ab : ∀ o, In x.l o → x.ab o = t.getD o.toNat 0
theorem PcO.bd {first : Int} {t : List Int} {l : List hc.OpV} {x : Hd} (h : PcO first t l x) {o : Int} (ho : In x.l o) : 0 ≤ o ∧ o < t.length := by
  obtain ⟨q, _, h1, h2⟩ := (h.inn o).1 ho
  have := cf_le t q
  omega
theorem PcO.nxb {first : Int} {t : List Int} {l : List hc.OpV} {x : Hd} (h : PcO first t l x) : 0 ≤ nx x.l ∧ nx x.l ≤ t.length := by
  obtain ⟨h0, h1, h2, h3⟩ := nx_spec h.ok.l
  refine ⟨h0, ?_⟩
  by_cases hz : hd.nx x.l = 0
  · omega
  · have := h.bd (h2 (hd.nx x.l - 1) (by omega) (by omega))
    omega
theorem PcO.nil {first : Int} (hf : 0 ≤ first ∧ first ≤ 4294967295) (t : List Int) : PcO first t [] (xk0 first) :=
  ⟨ok_new hf (by omega), rfl, rfl, by simp, fun o => ⟨fun q => (In.nil q).elim, fun q => by simp at q⟩, fun o q => (In.nil q).elim⟩
theorem PcO.step {first : Int} {t : List Int} (ht : t.length ≤ 2000) {l : List hc.OpV} {x : Hd} (h : PcO first t l x) (q : hc.OpV) : PcO first t (l ++ [q]) (stp first t x q) := by
  have hc := cf_le t q
  have hl := cp_len t q
  have hn := h.nxb
  have hno : ce t q ≤ cf t q → PcO first t (l ++ [q]) x := fun e => ⟨h.ok, h.room, h.first, by rw [List.length_append]; have := h.len; omega, fun o => by
    rw [h.inn]
    constructor
    · rintro ⟨y, hy, h1, h2⟩
      exact ⟨y, by simp [hy], h1, h2⟩
    · rintro ⟨y, hy, h1, h2⟩
      simp only [List.mem_append, List.mem_singleton] at hy
      rcases hy with hy | rfl
      · exact ⟨y, hy, h1, h2⟩
      · omega, h.ab⟩
  unfold stp
  by_cases h1 : cf t q < t.length
  · rw [if_pos h1]
    by_cases h2 : ce t q ≤ cf t q
    · have e : tk x ((first + (cf t q : Int)) % 4294967296) (cp t q) = x := by
        unfold tk
        have : (pl x ((first + (cf t q : Int)) % 4294967296) (cp t q).length).1 = 6 := by unfold pl; rw [if_pos (by omega)]
        rw [if_neg (by rw [this]; decide)]
      rw [e]
      exact hno h2
    · have A := tk_at h.ok (by omega) (f := (cf t q : Int)) (p := cp t q) (by omega) (by omega) (by omega) (by omega) (by rw [h.room]; omega)
      rw [h.first] at A
      obtain ⟨A, _⟩ := A
      generalize tk x ((first + (cf t q : Int)) % 4294967296) (cp t q) = x2 at *
      refine ⟨A.ok, by rw [A.room, h.room], by rw [A.first, h.first], by rw [List.length_append]; have := h.len; have := A.len; simp only [List.length_cons, List.length_nil]; omega, fun o => ?_, fun o ho => ?_⟩
      · rw [A.inn, h.inn, hl]
        constructor
        · rintro (⟨y, hy, h3, h4⟩ | h3)
          · exact ⟨y, by simp [hy], h3, h4⟩
          · exact ⟨q, by simp, by omega, by omega⟩
        · rintro ⟨y, hy, h3, h4⟩
          simp only [List.mem_append, List.mem_singleton] at hy
          rcases hy with hy | rfl
          · exact .inl ⟨y, hy, h3, h4⟩
          · exact .inr (by omega)
      · rw [A.ab]
        by_cases h3 : In x.l o
        · rw [if_pos ((inB_iff h.ok.l o).2 h3)]
          exact h.ab o h3
        · rw [if_neg (fun e => h3 ((inB_iff h.ok.l o).1 e))]
          rcases (A.inn o).1 ho with h4 | h4
          · exact (h3 h4).elim
          · rw [if_pos h4]
            have := cp_get (t := t) (q := q) (o := o.toNat) (by omega) (by omega)
            rw [← this]
            congr 1
            omega
  · rw [if_neg h1]
    exact hno (by omega)
theorem stp_same {first : Int} {t : List Int} {q : hc.OpV} {x : Hd} (h : ¬ cf t q < t.length) : stp first t x q = x := by unfold stp; rw [if_neg h]
theorem stp_takes {first : Int} {t : List Int} {q : hc.OpV} {x : Hd} (h : cf t q < t.length) : stp first t x q = tk x ((first + (cf t q : Int)) % 4294967296) (cp t q) := by unfold stp; rw [if_pos h]
/-- the text, as far as it goes; turned about, the same -/
theorem PcO.fin {first : Int} {t : List Int} {l l' : List hc.OpV} {x y : Hd} (h : PcO first t l x) (g : PcO first t l' y) (hm : ∀ q, q ∈ l ↔ q ∈ l') : nx y.l = nx x.l ∧ txt x = t.take (nx x.l).toNat ∧ txt y = t.take (nx x.l).toNat ∧ abv y = abv x := by
  have e : y.l = x.l := Rn.ext g.ok.l h.ok.l (fun o => by
    rw [g.inn, h.inn]
    constructor
    · rintro ⟨q, hq, r⟩; exact ⟨q, (hm q).2 hq, r⟩
    · rintro ⟨q, hq, r⟩; exact ⟨q, (hm q).1 hq, r⟩)
  have key : ∀ {l : List hc.OpV} {x : Hd}, PcO first t l x → txt x = t.take (nx x.l).toNat := fun {l x} h => by
    have hn := h.nxb
    obtain ⟨_, _, h2, _⟩ := nx_spec h.ok.l
    refine txt_at (n := (hd.nx x.l).toNat) (by omega) (by rw [List.length_take]; omega) (fun i hi => ?_)
    rw [h.ab _ (h2 (i : Int) (by omega) (by omega))]
    rw [List.getD_eq_getElem?_getD, List.getD_eq_getElem?_getD, List.getElem?_take, if_pos hi]
    rfl
  refine ⟨by rw [e], key h, ?_, by unfold abv; rw [e]⟩
  have := key g
  rw [e] at this
  exact this
end Go.Proofs.Ytekddgmmfgpehaa.hd
