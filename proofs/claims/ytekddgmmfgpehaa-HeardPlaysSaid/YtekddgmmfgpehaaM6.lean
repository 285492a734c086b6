/-
  Several texts in one: RunA RunB RngP RunI RunK HrdV
-/
import Derived.Deep.DrawnRows
import Derived.StillTailTactics
import Derived.Test.YtekddgmmfgpehaaM5
/-!   Package runs: Add.
-/
namespace Go.Proofs.Ytekddgmmfgpehaa.rn
open Go.RowKit Go.Shelf aid mem rng sp
attribute [local go_sem ↓] Go.wp_at_zero Go.wp_at_succ
set_option linter.unusedVariables false
set_option linter.unusedSimpArgs false

/-- what is left of a set that was changed -/
def SetPost (B : Nat) (a : Option Addr) (cap : Nat) (l' : List Sp) (w w' : World) : Prop := ∃ a' n' cap', RnAt w' B a' n' cap' l' ∧ Kept (B :: blk a cap) w w' ∧ ∀ b ∈ blk a' cap', b ∈ blk a cap ∨ w.heap.size ≤ b
def ChgPost (B : Nat) (a : Option Addr) (cap : Nat) (r : Int × Int × List Sp) (w : World) (e : Ending) (w' : World) : Prop := e = .returned (.tuple #[.int .i64 r.1, .int .i64 r.2.1]) ∧ SetPost B a cap r.2.2 w w'
set_option maxRecDepth 100000 in
theorem set_same {w w' : World} {B : Nat} {a : Option Addr} {n cap : Nat} {l : List Sp} (h : RnAt w B a n cap l) (hb : Below w.heap.size w w') : SetPost B a cap l w w' :=
  ⟨a, n, cap, h.later hb, Kept.of_below hb (Nat.le_refl _) _, fun b hb => .inl hb⟩
set_option maxRecDepth 100000 in
/-- behind replace, whose row of spans was new -/
theorem set_rep {w w1 w2 : World} {B sg : Nat} {a : Option Addr} {n cap : Nat} {l l' : List Sp} (h : RnAt w B a n cap l) (hb : Below w.heap.size w w1) (hsg : w.heap.size ≤ sg) {e : Ending} (hr : RepPost B sg a cap l' w1 e w2) :
    (4096 < l'.length ∧ e = .returned (.int .i64 4) ∧ SetPost B a cap l w w2) ∨ (l'.length ≤ 4096 ∧ e = .returned (.int .i64 0) ∧ SetPost B a cap l' w w2) := by
  have hB := lt_of_block h.hdr
  rcases hr with ⟨h1, h2, h3⟩ | ⟨h1, h2, a', cap', h4, h5, h6⟩
  · refine .inl ⟨h1, h2, a, n, cap, ⟨h3.heap (by simp; omega) (h.later hb).hdr, (h.later hb).row.keep h3 (fun b hb' e => ?_)⟩, ((Kept.of_below hb (Nat.le_refl _) (B :: blk a cap)).trans h3 (fun x hx => .inr (by simp at hx; omega))), fun b hb => .inl hb⟩
    have := (h.row.lt b hb').1
    simp at e
    omega
  · refine .inr ⟨h1, h2, a', _, cap', h4, (Kept.of_below hb (Nat.le_refl _) (B :: blk a cap)).trans h5 (fun x hx => ?_), fun b hb' => ?_⟩
    · simp at hx
      rcases hx with rfl | rfl | hx
      · exact .inl (by simp)
      · exact .inr hsg
      · exact .inl (by simp [hx])
    · rcases h6 b hb' with q | q
      · exact .inl q
      · exact .inr (by have := hb.size; omega)
/-- what stands while one is changed -/
structure AS (w : World) (B bs : Nat) (a : Option Addr) (n cap : Nat) (l : List Sp) (s : Sp) (C : World) : Prop where
  at_ : RnAt C B a n cap l
  sp : SpAt C bs s
  below : Below w.heap.size w C
  size : bs < C.heap.size
set_option maxRecDepth 100000 in
theorem AS.later {w : World} {B bs : Nat} {a : Option Addr} {n cap : Nat} {l : List Sp} {s : Sp} {C C' : World} (h : AS w B bs a n cap l s C) (hb : Below C.heap.size C C') : AS w B bs a n cap l s C' :=
  ⟨h.at_.later hb, h.sp.later hb, h.below.trans (hb.mono h.below.size), Nat.lt_of_lt_of_le h.size hb.size⟩
set_option maxRecDepth 100000 in
theorem AS.cells {w : World} {B bs : Nat} {a : Option Addr} {n cap : Nat} {l : List Sp} {s : Sp} {C : World} (h : AS w B bs a n cap l s C) : C.cell? ⟨B, 0, none⟩ = some (.slice a n cap) ∧ C.cell? ⟨bs, 0, none⟩ = some (.int .i64 s.1) ∧ C.cell? ⟨bs, 1, none⟩ = some (.int .i64 s.2) := ⟨cofr h.at_.hdr 0 _ rfl, h.sp.c0, h.sp.c1⟩
set_option maxRecDepth 100000 in
theorem ret2 {a b c d : Int} (h1 : a = c) (h2 : b = d) : Ending.returned (.tuple #[.int .i64 a, .int .i64 b]) = .returned (.tuple #[.int .i64 c, .int .i64 d]) := by rw [h1, h2]
set_option maxRecDepth 100000 in
/-- list[f:t:t] -/
theorem slice3_any {w : World} {a : Option Addr} {n cap : Nat} {l : List Sp} (h : SlR w 36 2 a n cap (spCells l)) (f t : Nat) (hft : f ≤ t) (htn : t ≤ n) :
    ∃ a', (∀ wx, (Instr.slice 32 (.slice a n cap) (some (.int .i64 (f : Int))) (some (.int .i64 (t : Int))) (some (.int .i64 (t : Int)))).run Try.prog wx = .ok (.slice a' (t - f) (t - f)) wx) ∧
      ∀ C, SlR C 36 2 a n cap (spCells l) → SlR C 36 2 a' (t - f) (t - f) (spCells ((l.take t).drop f)) := by
  obtain ⟨i0, hi, hz0, hz1, hz2⟩ := info_split info_span
  have hle := h.le
  have hlen := row_len h
  have h1 : t ≤ cap := by omega
  refine ⟨if t = f then a else a.map (·.add (f * 2)), fun wx => ?_, fun C hC => ?_⟩
  · have e1 : (asIntOf (.int .i64 (t : Int))).run Try.prog wx = .ok (.i64, (t : Int)) wx := rfl
    have e2 : (asIntOf (.int .i64 (f : Int))).run Try.prog wx = .ok (.i64, (f : Int)) wx := rfl
    simp [Instr.slice, Instr.sliceBounds, Instr.sliceBound, run_underlying Try.underlying32, sizeOf, typeInfo, hi, hz1, e1, e2, h1, hft]
  · by_cases c : t = f
    · subst c
      have e : spCells ((l.take t).drop t) = [] := by
        rw [List.drop_eq_nil_of_le (by rw [List.length_take]; omega)]; rfl
      rw [e, Nat.sub_self, if_pos rfl]
      exact SlR.sub0 a
    · obtain ⟨g, off, rfl, _⟩ := row_cells hC (by omega)
      have := hC.sub f t t hft htn (Nat.le_refl _) (by omega) (by omega)
      rw [spTake, spDrop] at this
      rw [if_neg c, Option.map_some, addr_add]
      exact this
set_option maxRecDepth 100000 in
theorem span_src' {X : World} {p : Nat} {s : Sp} (h : SpAt X p s) : Src Try.prog 2 32 (.slice (some ⟨p, 0, none⟩) 1 1) 1 (spCells [s]) X :=
  (SlP.slr (P := []) (R := []) ⟨h, rfl, rfl, by simp, by decide, by simp [spCells]⟩ : SlR X 36 2 (some ⟨p, 0, none⟩) 1 1 (spCells [s])).src Try.underlying32 (spCells_one [s])
set_option maxRecDepth 100000 in
theorem as_put {w : World} {B bs p : Nat} {a : Option Addr} {n cap : Nat} {l : List Sp} {s : Sp} {C C' : World} (h : AS w B bs a n cap l s C) (hp : w.heap.size ≤ p) (hn : bs ≠ p) (hk : Kept [p] C C') (hB : B < w.heap.size) (hbl : ∀ b ∈ blk a cap, b < w.heap.size) : AS w B bs a n cap l s C' :=
  ⟨⟨hk.heap (by simp; omega) h.at_.hdr, h.at_.row.keep hk (fun b hb e => by have := hbl b hb; simp at e; omega)⟩, hk.heap (by simpa using hn) h.sp, h.below.trans (hk.below (B := w.heap.size) (by simpa using hp) h.below.size), Nat.lt_of_lt_of_le h.size hk.size⟩
set_option maxRecDepth 100000 in
set_option maxHeartbeats 2000000 in
theorem add_any {w : World} {B : Nat} {a : Option Addr} {n cap : Nat} {l : List Sp} (h : RnAt w B a n cap l) (hl : Rn l) (hn : n ≤ 4096) (s : Sp) :
    Calls Try.prog 24 #[.pointer (some ⟨B, 0, none⟩), spV s] w (ChgPost B a cap (addN l s) w) := by
  obtain ⟨i0, hi, hz0, hz1, hz2⟩ := info_split info_span
  have hlen := row_len h.row
  have hB := lt_of_block h.hdr
  have hbl := fun b hb => (h.row.lt b hb).1
  have b1 := bal (w := w) (.cells #[.int .i64 s.1, .int .i64 s.2] 36)
  have s1 := sp_new w s
  have S1 : AS w B w.heap.size a n cap l s (w.alloc (.cells #[.int .i64 s.1, .int .i64 s.2] 36)) := ⟨h.later b1, s1, b1, s1.lt⟩
  have HH := Lib.hid h
  have HCK := Lib.hid (fun X => check_any X B s)
  obtain ⟨W1, hW1⟩ : ∃ W1, W1 = w.alloc (.cells #[.int .i64 s.1, .int .i64 s.2] 36) := ⟨_, rfl⟩
  have HW1 := Lib.hid hW1
  rw [← hW1] at S1
  clear hW1 b1 s1 h
  have c0 : (w.alloc (.cells #[.int .i64 s.1, .int .i64 s.2] 36)).cell? ⟨w.heap.size, 0, none⟩ = some (.int .i64 s.1) := (sp_new w s).c0
  have c1 : (w.alloc (.cells #[.int .i64 s.1, .int .i64 s.2] 36)).cell? ⟨w.heap.size, 1, none⟩ = some (.int .i64 s.2) := (sp_new w s).c1
  have HAN := Lib.hid (show addN l s = if mayB s.1 s.2 = true then (if lenI s - withinL l s = 0 then (0, 0, l) else if 4096 < (refWi l s).length then (0, 4, l) else (lenI s - withinL l s, 0, refWi l s)) else (0, 3, l) from rfl)
  generalize addN l s = R at *
  go_enter Try.func24, Try.ntmps24
  go_wp2_with fail
  rw [← HW1.out]
  clear c0 c1 HW1
  generalize hbs : w.heap.size = bs at *
  have HBSZ := Lib.hid hbs
  clear hbs
  cases hm : mayB s.1 s.2
  · rw [hm] at HCK HAN
    have HAN' := Lib.hid (show R = (0, 3, l) from by rw [HAN.out, if_neg (by simp)])
    refine (HCK.out _).mono ?_
    rintro e w2 ⟨rfl, h2⟩
    have S2 := S1.later h2
    have HF := Lib.hid (show ChgPost B a cap R w (.returned (.tuple #[.int .i64 0, .int .i64 3])) w2 from by rw [HAN'.out]; exact ⟨rfl, set_same HH.out S2.below⟩)
    clear S2 S1 HAN HAN' h2 HCK hm
    go_wp2_with fail
    go_ret2
    exact HF.out
  rw [hm, if_pos rfl] at HAN
  rw [hm] at HCK
  have hok : Ok s := mayB_iff.1 hm
  refine (HCK.out _).mono ?_
  rintro e w2 ⟨rfl, h2⟩
  have S2 := S1.later h2
  have hly := lenI_bd s
  have hwb := within_le s hl.ok
  have hbb := hl.bytes
  have HLN := Lib.hid (fun X => len_any s X)
  have HWN := Lib.hid (fun X (S : AS w B bs a n cap l s X) => within_any S.at_.rv hl (by omega) s)
  have HADD := Lib.hid (fun hk : ROk s => add_at hl hk (lo1_hi1 hl hk) (lo1_spec s hl).2.1 (lo1_spec s hl).2.2 (hi1_spec s hl).2.1 (hi1_spec s hl).2.2)
  have HROK := Lib.hid (fun (hc : ¬ lenI s - withinL l s = 0) => rok_of hok (fun h0 => hc (by
    have hw : withinL l s = 0 := by rw [← (parts_spec s hl).2.2.1, parts_none hl.ok h0]; rfl
    rw [h0, hw]; rfl)))
  have HFT := Lib.hid (fun hk : ROk s => And.intro (lo1_hi1 hl hk) (hi1_spec s hl).1)
  have HPL1 := Lib.hid (fun X (S : AS w B bs a n cap l s X) => place_any (gf := 58) (cb := #[.pointer (some ⟨bs, 0, none⟩)]) (fun x => decide (s.1 ≤ x.2)) S.at_.rv enters2 (by omega) (fun W2 hW2 x _ => add1_any (S.sp.later hW2) x) (by rw [← hlen]; exact hl.mono2' s.1))
  have HPL2 := Lib.hid (fun X (S : AS w B bs a n cap l s X) => place_any (gf := 59) (cb := #[.pointer (some ⟨bs, 0, none⟩)]) (fun x => decide (s.2 < x.1)) S.at_.rv enters3 (by omega) (fun W2 hW2 x _ => add2_any (S.sp.later hW2) x) (by rw [← hlen]; exact hl.mono1 s.2))
  rw [show plc (fun x => decide (s.1 ≤ x.2)) l = lo1 l s from rfl] at HPL1
  rw [show plc (fun x => decide (s.2 < x.1)) l = hi1 l s from rfl] at HPL2
  clear S1 h2 hm HCK hok
  obtain ⟨cm, hcm⟩ : ∃ cm, lenI s - withinL l s = cm := ⟨_, rfl⟩
  have HCM := Lib.hid hcm
  rw [hcm] at HAN HROK
  have hw1 : IntKind.i64.wrap (lenI s - withinL l s) = cm := by rw [← hcm]; exact IntWalk.i64_in _ (by omega)
  clear hcm
  go_wp2_with fail
  refine wp_region_noPanic ?_
  refine wp_region_held_drew (S := (fun w' => w'.cell? ⟨bs, 0, none⟩ = some (.int .i64 s.1) ∧ w'.cell? ⟨bs, 1, none⟩ = some (.int .i64 s.2))) (by kernel_rfl) ?_ (fun hHeld => ?_)
  · ((try dsimp only); exact ⟨S2.sp.c0, S2.sp.c1⟩)
  refine wpAnyH_take (i := 0) (oi := _) (v := ?_) rfl (by kernel_rfl) (by kernel_rfl) (by kernel_rfl) (fun _ _ _ h => h) (Or.inl ⟨by rfl, ?_⟩) (by assumption) ?_
  rotate_left
  · (first | (intro v hSw; (try dsimp only at hSw); go_simp; done) | (intro v hSw; (try dsimp only at hSw); go_simp; with_reducible rfl))
  (try simp only [List.getElem_toArray, List.getElem_cons_succ, List.getElem_cons_zero, Act.put, List.setIfInBounds_toArray, List.set_cons_zero, List.set_cons_succ])
  refine wpAnyH_take (i := 2) (oi := _) (v := ?_) rfl (by kernel_rfl) (by kernel_rfl) (by kernel_rfl) (fun _ _ _ h => h) (Or.inl ⟨by rfl, ?_⟩) (by assumption) ?_
  rotate_left
  · (first | (intro v hSw; (try dsimp only at hSw); go_simp; done) | (intro v hSw; (try dsimp only at hSw); go_simp; with_reducible rfl))
  (try simp only [List.getElem_toArray, List.getElem_cons_succ, List.getElem_cons_zero, Act.put, List.setIfInBounds_toArray, List.set_cons_zero, List.set_cons_succ])
  refine wpAnyH_take (i := 3) (oi := _) (v := ?_) rfl (by kernel_rfl) (by kernel_rfl) (by kernel_rfl) (fun _ _ _ h => h) (Or.inl ⟨by rfl, ?_⟩) (by assumption) ?_
  rotate_left
  · (first | (intro v hSw; (try dsimp only at hSw); go_simp; done) | (intro v hSw; (try dsimp only at hSw); go_simp; with_reducible rfl))
  (try simp only [List.getElem_toArray, List.getElem_cons_succ, List.getElem_cons_zero, Act.put, List.setIfInBounds_toArray, List.set_cons_zero, List.set_cons_succ])
  refine wpAnyH_ready (rs := [1]) (by kernel_rfl) (by simp) ?_
  refine AllReadyH.cons (o := _) rfl (fun K hK => ?_) AllReadyH.nil
  go_simp
  (with_reducible refine (HLN.out _).mono ?_)
  rintro e w3 ⟨rfl, h3⟩
  have S3 := S2.later (undrew h3)
  refine hK.out _ _ ?_ (fun hHeld => ?_)
  · ((try dsimp only); exact ⟨S3.sp.c0, S3.sp.c1⟩)
  clear hK K
  (try simp only [List.getElem_toArray, List.getElem_cons_succ, List.getElem_cons_zero, Act.put, List.setIfInBounds_toArray, List.set_cons_zero, List.set_cons_succ])
  refine wpAnyH_ready (rs := [4]) (by kernel_rfl) (by simp) ?_
  refine AllReadyH.cons (o := _) rfl (fun K hK => ?_) AllReadyH.nil
  go_simp
  (with_reducible refine (HWN.out _ S3).mono ?_)
  rintro e w4 ⟨rfl, h4⟩
  have S4 := S3.later h4
  refine hK.out _ _ ?_ (fun hHeld => ?_)
  · ((try dsimp only); exact ⟨S4.sp.c0, S4.sp.c1⟩)
  clear hK K
  (try simp only [List.getElem_toArray, List.getElem_cons_succ, List.getElem_cons_zero, Act.put, List.setIfInBounds_toArray, List.set_cons_zero, List.set_cons_succ])
  refine wpAnyH_take (i := 5) (oi := _) (v := ?_) rfl (by kernel_rfl) (by kernel_rfl) (by kernel_rfl) (fun _ _ _ h => h) (Or.inl ⟨by rfl, ?_⟩) (by assumption) ?_
  rotate_left
  · (first | (intro v hSw; (try dsimp only at hSw); go_simp; done) | (intro v hSw; (try dsimp only at hSw); go_simp; with_reducible rfl))
  (try simp only [List.getElem_toArray, List.getElem_cons_succ, List.getElem_cons_zero, Act.put, List.setIfInBounds_toArray, List.set_cons_zero, List.set_cons_succ])
  refine wpAnyH_take (i := 6) (oi := _) (v := ?_) rfl (by kernel_rfl) (by kernel_rfl) (by kernel_rfl) (fun _ _ _ h => h) (Or.inl ⟨by rfl, ?_⟩) (by assumption) ?_
  rotate_left
  · (first | (intro v hSw; (try dsimp only at hSw); go_simp; done) | (intro v hSw; (try dsimp only at hSw); go_simp; with_reducible rfl))
  (try simp only [List.getElem_toArray, List.getElem_cons_succ, List.getElem_cons_zero, Act.put, List.setIfInBounds_toArray, List.set_cons_zero, List.set_cons_succ])
  refine wpAnyH_done (by kernel_rfl) ?_ _
  refine NoPanic.normal ?_
  have HS4 := Lib.hid S4
  clear hHeld S4 S3 S2 h4 h3 hw1 HLN HWN hly hwb hbb HCM
  have HBB := Lib.hid (And.intro hB hbl)
  clear hB hbl
  by_cases hc : cm = 0
  · subst hc
    have HAN' := Lib.hid (show R = (0, 0, l) from by rw [HAN.out, if_pos rfl])
    have HF := Lib.hid (show ChgPost B a cap R w (.returned (.tuple #[.int .i64 0, .int .i64 0])) w4 from by rw [HAN'.out]; exact ⟨rfl, set_same HH.out HS4.out.below⟩)
    clear HAN HAN' HADD HROK HFT HPL1 HPL2 HS4
    go_wp2_with fail
    go_ret2
    exact HF.out
  have hk := HROK.out hc
  rw [if_neg hc] at HAN
  obtain ⟨hft, htn⟩ := HFT.out hk
  have hADD := HADD.out hk
  rw [hlen] at htn
  generalize lo1 l s = f at *
  generalize hi1 l s = t at *
  rw [← hADD] at HAN
  have HAD := Lib.hid (show addAt l s f t = l.take f ++ [hullP ((l.take t).drop f ++ [s])] ++ l.drop t from by unfold addAt; simp)
  have HONE0 := Lib.hid (show lenI (hullP ((l.take t).drop f ++ [s])) ≠ 0 from (hull_ne (fun x hx => by
    rcases List.mem_append.1 hx with h | h
    · exact hl.ok x (List.mem_of_mem_take (List.mem_of_mem_drop h))
    · simp at h; subst h; exact hk) (by simp)).1)
  clear HADD HROK HFT hADD hk hl
  obtain ⟨a7, hsl, hrow7⟩ := slice3_any HH.out.row f t hft htn
  have HM := Lib.hid (fun C (S : AS w B bs a n cap l s C) => hrow7 C S.at_.row)
  clear hrow7
  generalize addAt l s f t = L' at *
  obtain ⟨one, hone⟩ : ∃ one, hullP ((l.take t).drop f ++ [s]) = one := ⟨_, rfl⟩
  rw [hone] at HAD HONE0
  have HONE := Lib.hid hone
  have HLEN := Lib.hid hlen
  clear hone hlen
  have hcb : ¬ cm = 0 := hc
  go_wp2_with fail
  refine (HPL1.out _ HS4.out).mono ?_
  rintro e w5 ⟨rfl, h5⟩
  have HS5 := Lib.hid (HS4.out.later h5)
  clear h5
  go_wp2_with fail
  refine (HPL2.out _ HS5.out).mono ?_
  rintro e w6 ⟨rfl, h6⟩
  have S6 := HS5.out.later h6
  have S0 := S6.later ((Below.refl w6.heap.size w6).drew)
  have HC0 := Lib.hid S0.cells
  clear h6 HS4 HS5 HPL1 HPL2 S6 hc
  go_wp2_with fail
  refine wp_region_noPanic ?_
  refine wp_region_held_drew (S := fun w' => w'.cell? ⟨B, 0, none⟩ = some (.slice a n cap) ∧ w'.cell? ⟨bs, 0, none⟩ = some (.int .i64 s.1) ∧ w'.cell? ⟨bs, 1, none⟩ = some (.int .i64 s.2)) (by kernel_rfl) ?_ (fun hHeld => ?_)
  · exact HC0.out
  generalize w6.drew = C0 at *
  clear HC0
  refine wpAnyH_take (i := 0) (oi := _) (v := ?_) rfl (by kernel_rfl) (by kernel_rfl) (by kernel_rfl) (fun _ _ _ h => h) (Or.inl ⟨by rfl, ?_⟩) (by assumption) ?_
  rotate_left
  · (first | (intro v hSw; (try dsimp only at hSw); go_simp; done) | (intro v hSw; (try dsimp only at hSw); go_simp; with_reducible rfl))
  (try simp only [List.getElem_toArray, List.getElem_cons_succ, List.getElem_cons_zero, Act.put, List.setIfInBounds_toArray, List.set_cons_zero, List.set_cons_succ])
  refine wpAnyH_take (i := 1) (oi := _) (v := ?_) rfl (by kernel_rfl) (by kernel_rfl) (by kernel_rfl) (fun _ _ _ h => h) (Or.inl ⟨by rfl, ?_⟩) (by assumption) ?_
  rotate_left
  · (first | (intro v hSw; (try dsimp only at hSw); go_simp; done) | (intro v hSw; (try dsimp only at hSw); go_simp; with_reducible rfl))
  (try simp only [List.getElem_toArray, List.getElem_cons_succ, List.getElem_cons_zero, Act.put, List.setIfInBounds_toArray, List.set_cons_zero, List.set_cons_succ])
  refine wpAnyH_take (i := 2) (oi := _) (v := ?_) rfl (by kernel_rfl) (by kernel_rfl) (by kernel_rfl) (fun _ _ _ h => h) (Or.inl ⟨by rfl, ?_⟩) (by assumption) ?_
  rotate_left
  · (first | (intro v hSw; (try dsimp only at hSw); go_simp; done) | (intro v hSw; (try dsimp only at hSw); go_simp; with_reducible rfl))
  (try simp only [List.getElem_toArray, List.getElem_cons_succ, List.getElem_cons_zero, Act.put, List.setIfInBounds_toArray, List.set_cons_zero, List.set_cons_succ])
  refine wpAnyH_take (i := 3) (oi := _) (v := ?_) rfl (by kernel_rfl) (by kernel_rfl) (by kernel_rfl) (fun _ _ _ h => h) (Or.inl ⟨by rfl, ?_⟩) (by assumption) ?_
  rotate_left
  · (first | (intro v hSw; (try dsimp only at hSw); go_simp; done) | (intro v hSw; (try dsimp only at hSw); go_simp; with_reducible rfl))
  (try simp only [List.getElem_toArray, List.getElem_cons_succ, List.getElem_cons_zero, Act.put, List.setIfInBounds_toArray, List.set_cons_zero, List.set_cons_succ])
  refine wpAnyH_take (i := 4) (oi := _) (v := ?_) rfl (by kernel_rfl) (by kernel_rfl) (by kernel_rfl) (fun _ _ _ h => h) (Or.inl ⟨by rfl, ?_⟩) (by assumption) ?_
  rotate_left
  · (first | (intro v hSw; (try dsimp only at hSw); go_simp; done) | (intro v hSw; (try dsimp only at hSw); go_simp; with_reducible rfl))
  (try simp only [List.getElem_toArray, List.getElem_cons_succ, List.getElem_cons_zero, Act.put, List.setIfInBounds_toArray, List.set_cons_zero, List.set_cons_succ])
  refine wpAnyH_take (i := 5) (oi := _) (v := ?_) rfl (by kernel_rfl) (by kernel_rfl) (by kernel_rfl) (fun _ _ _ h => h) (Or.inl ⟨by rfl, ?_⟩) (by assumption) ?_
  rotate_left
  · (first | (intro v hSw; (try dsimp only at hSw); go_simp; done) | (intro v hSw; (try dsimp only at hSw); go_simp; with_reducible rfl))
  (try simp only [List.getElem_toArray, List.getElem_cons_succ, List.getElem_cons_zero, Act.put, List.setIfInBounds_toArray, List.set_cons_zero, List.set_cons_succ])
  refine wpAnyH_take (i := 6) (oi := _) (v := ?_) rfl (by kernel_rfl) (by kernel_rfl) (by kernel_rfl) (fun _ _ _ h => h) (Or.inl ⟨by rfl, ?_⟩) (by assumption) ?_
  rotate_left
  · (first | (intro v hSw; (try dsimp only at hSw); go_simp; done) | (intro v hSw; (try dsimp only at hSw); go_simp; with_reducible rfl))
  (try simp only [List.getElem_toArray, List.getElem_cons_succ, List.getElem_cons_zero, Act.put, List.setIfInBounds_toArray, List.set_cons_zero, List.set_cons_succ])
  refine wpAnyH_take (i := 7) (oi := _) (v := ?_) rfl (by kernel_rfl) (by kernel_rfl) (by kernel_rfl) (fun _ _ _ h => h) (Or.inl ⟨by rfl, ?_⟩) (by assumption) ?_
  rotate_left
  · (first | (intro v hSw; (try dsimp only at hSw); go_simp; done) | (intro v hSw; (try dsimp only at hSw); go_simp; with_reducible rfl))
  (try simp only [List.getElem_toArray, List.getElem_cons_succ, List.getElem_cons_zero, Act.put, List.setIfInBounds_toArray, List.set_cons_zero, List.set_cons_succ])
  refine wpAnyH_take (i := 8) (oi := _) (v := ?_) rfl (by kernel_rfl) (by kernel_rfl) (by kernel_rfl) (fun _ _ _ h => h) (Or.inl ⟨by rfl, ?_⟩) (by assumption) ?_
  rotate_left
  · (first | (intro v hSw; (try dsimp only at hSw); go_simp; done) | (intro v hSw; (try dsimp only at hSw); go_simp; with_reducible rfl))
  (try simp only [List.getElem_toArray, List.getElem_cons_succ, List.getElem_cons_zero, Act.put, List.setIfInBounds_toArray, List.set_cons_zero, List.set_cons_succ])
  refine wpAnyH_ready (rs := [9, 12]) (by kernel_rfl) (by simp) ?_
  refine AllReadyH.cons (o := _) rfl (fun K hK => ?_) ?_
  · have bb := bal (w := C0) (.cells #[.int .i64 s.1, .int .i64 s.2] 36)
    have S1 := S0.later bb
    have x9 := sp_new C0 s
    go_simp
    refine hK.out _ _ ?_ (fun hHeld => ?_)
    · ((try dsimp only); exact S1.cells)
    clear hK K bb S0
    (try simp only [List.getElem_toArray, List.getElem_cons_succ, List.getElem_cons_zero, Act.put, List.setIfInBounds_toArray, List.set_cons_zero, List.set_cons_succ])
    generalize C0.alloc (.cells #[.int .i64 s.1, .int .i64 s.2] 36) = C1 at *
    generalize hp9 : C0.heap.size = p9 at *
    clear hp9
    refine wpAnyH_ready (rs := [10, 12]) (by kernel_rfl) (by simp) ?_
    refine AllReadyH.cons (o := _) rfl (fun K hK => ?_) ?_
    · have rm := HM.out C1 S1
      refine step_append_full C1 rfl (.tmp 39) (.tmp 41) 32 32 rfl 36 i0 (.agg #[.int .i64 0, .int .i64 0]) 2 16 Try.underlying32 hi hz0 hz1 (by decide) hz2 rfl a7 (t - f) (spCells ((l.take t).drop f)) rfl rm (.slice (some ⟨p9, 0, none⟩) 1 1) rfl 1 (by decide) (spCells [s]) (span_src' x9) (by unfold maxLen; omega) (by omega) ?_
      intro a10 c10 C2 r10 bb b10
      rw [← spCells_append] at r10
      have S2 := S1.later bb
      refine hK.out _ _ ?_ (fun hHeld => ?_)
      · ((try dsimp only); exact S2.cells)
      clear hK K bb S1 rm b10
      (try simp only [List.getElem_toArray, List.getElem_cons_succ, List.getElem_cons_zero, Act.put, List.setIfInBounds_toArray, List.set_cons_zero, List.set_cons_succ])
      refine wpAnyH_ready (rs := [11, 12]) (by kernel_rfl) (by simp) ?_
      refine AllReadyH.cons (o := _) rfl (fun K hK => ?_) ?_
      · go_simp
        (with_reducible refine (hull_any ((l.take t).drop f ++ [s]) _ _ _ C2 (sls_of r10)).mono ?_)
        rw [HONE.out]
        rintro e C3 ⟨rfl, bb⟩
        have S3 := S2.later bb
        refine hK.out _ _ ?_ (fun hHeld => ?_)
        · ((try dsimp only); exact S3.cells)
        clear hK K bb S2 r10
        (try simp only [List.getElem_toArray, List.getElem_cons_succ, List.getElem_cons_zero, Act.put, List.setIfInBounds_toArray, List.set_cons_zero, List.set_cons_succ])
        refine wpAnyH_ready (rs := [12]) (by kernel_rfl) (by simp) ?_
        refine AllReadyH.cons (o := _) rfl (fun K hK => ?_) AllReadyH.nil
        have bb := bal (w := C3) (.cells #[.int .i64 0, .int .i64 0] 36)
        have S4 := S3.later bb
        have x12 : SpAt (C3.alloc (.cells #[.int .i64 0, .int .i64 0] 36)) C3.heap.size (0, 0) := sp_new C3 (0, 0)
        have g12 : w.heap.size ≤ C3.heap.size := S3.below.size
        have n12 : bs ≠ C3.heap.size := by have := S3.size; omega
        go_simp
        refine hK.out _ _ ?_ (fun hHeld => ?_)
        · ((try dsimp only); exact S4.cells)
        clear hK K bb S3
        (try simp only [List.getElem_toArray, List.getElem_cons_succ, List.getElem_cons_zero, Act.put, List.setIfInBounds_toArray, List.set_cons_zero, List.set_cons_succ])
        generalize C3.alloc (.cells #[.int .i64 0, .int .i64 0] 36) = C4 at *
        generalize hp12 : C3.heap.size = p12 at *
        clear hp12
        refine wpAnyH_ready (rs := [13]) (by kernel_rfl) (by simp) ?_
        refine AllReadyH.cons (o := _) rfl (fun K hK => ?_) AllReadyH.nil
        have z0 := x12.c0
        have z1 := x12.c1
        have z2 := x12.f0
        have z3 := x12.f1
        have xx := x12.put one.1 one.2
        have kk : Kept [p12] C4 ((C4.setCell ⟨p12, 0, none⟩ (.int .i64 one.1)).setCell ⟨p12, 1, none⟩ (.int .i64 one.2)) := kput C4 p12 _ _
        have S9 : AS w B bs a n cap l s ((C4.setCell ⟨p12, 0, none⟩ (.int .i64 one.1)).setCell ⟨p12, 1, none⟩ (.int .i64 one.2)) := as_put S4 g12 n12 kk (by rw [HBSZ.out]; exact HBB.out.1) (by rw [HBSZ.out]; exact HBB.out.2)
        go_simp
        refine hK.out _ _ ?_ (fun hHeld => ?_)
        · ((try dsimp only); exact S9.cells)
        clear hK K
        (try simp only [List.getElem_toArray, List.getElem_cons_succ, List.getElem_cons_zero, Act.put, List.setIfInBounds_toArray, List.set_cons_zero, List.set_cons_succ])
        refine wpAnyH_done (by kernel_rfl) ?_ _
        refine NoPanic.normal ?_
        have HS9 := Lib.hid (And.intro S9 xx)
        clear z0 z1 z2 z3 kk S9 xx hHeld x12 S4
        generalize (C4.setCell ⟨p12, 0, none⟩ (.int .i64 one.1)).setCell ⟨p12, 1, none⟩ (.int .i64 one.2) = W9 at *
        obtain ⟨S9, x9'⟩ := HS9.out
        have e0 := x9'.c0; have e1 := x9'.c1
        have bR := bal (w := W9) (.cells #[.int .i64 one.1, .int .i64 one.2] 36)
        have xR := sp_new W9 one
        have SR := S9.later bR
        have hgR := S9.below.size
        have HR := Lib.hid (replace_any (B := B) (f := f) (t := t) (sg := W9.heap.size) (k := 1) (ys := [one]) SR.at_ hft htn hn (by simp) (by have := HBB.out.1; have := HBSZ.out; omega) (fun hh => by have := HBB.out.2 _ hh; have := HBSZ.out; omega) (by simp) xR.lt (del_one one xR HONE0.out))
        rw [← HAD.out] at HR
        have HSR := Lib.hid SR
        clear S9 x9' HS9 bR xR SR
        go_wp2_with fail
        refine HR.out.mono ?_
        rintro e w12 hrep
        have hset := set_rep HH.out HSR.out.below hgR hrep
        clear hrep e0 e1
        rcases hset with ⟨h1, rfl, h2⟩ | ⟨h1, rfl, h2⟩
        · have hR : R = (0, 4, l) := by rw [HAN.out, if_pos h1]
          have HF := Lib.hid (show ChgPost B a cap R w (.returned (.tuple #[.int .i64 0, .int .i64 4])) w12 from by rw [hR]; exact ⟨rfl, h2⟩)
          clear h1 h2 hR
          go_wp2_with fail
          go_ret2
          exact HF.out
        · have hR : R = (cm, 0, L') := by rw [HAN.out, if_neg (by omega)]
          have HF := Lib.hid (show ChgPost B a cap R w (.returned (.tuple #[.int .i64 cm, .int .i64 0])) w12 from by rw [hR]; exact ⟨rfl, h2⟩)
          clear h1 h2 hR
          go_wp2_with fail
          go_ret2
          exact HF.out
      refine AllReadyH.cons (o := _) rfl (fun K hK => ?_) AllReadyH.nil
      have bb := bal (w := C2) (.cells #[.int .i64 0, .int .i64 0] 36)
      have S3 := S2.later bb
      have x12 : SpAt (C2.alloc (.cells #[.int .i64 0, .int .i64 0] 36)) C2.heap.size (0, 0) := sp_new C2 (0, 0)
      have g12 : w.heap.size ≤ C2.heap.size := S2.below.size
      have n12 : bs ≠ C2.heap.size := by have := S2.size; omega
      replace r10 := r10.later bb
      go_simp
      refine hK.out _ _ ?_ (fun hHeld => ?_)
      · ((try dsimp only); exact S3.cells)
      clear hK K bb S2
      (try simp only [List.getElem_toArray, List.getElem_cons_succ, List.getElem_cons_zero, Act.put, List.setIfInBounds_toArray, List.set_cons_zero, List.set_cons_succ])
      generalize C2.alloc (.cells #[.int .i64 0, .int .i64 0] 36) = C3 at *
      generalize hp12 : C2.heap.size = p12 at *
      clear hp12
      refine wpAnyH_ready (rs := [11]) (by kernel_rfl) (by simp) ?_
      refine AllReadyH.cons (o := _) rfl (fun K hK => ?_) AllReadyH.nil
      go_simp
      (with_reducible refine (hull_any ((l.take t).drop f ++ [s]) _ _ _ C3 (sls_of r10)).mono ?_)
      rw [HONE.out]
      rintro e C4 ⟨rfl, bb⟩
      have S4 := S3.later bb
      replace x12 := x12.later bb
      refine hK.out _ _ ?_ (fun hHeld => ?_)
      · ((try dsimp only); exact S4.cells)
      clear hK K bb S3 r10
      (try simp only [List.getElem_toArray, List.getElem_cons_succ, List.getElem_cons_zero, Act.put, List.setIfInBounds_toArray, List.set_cons_zero, List.set_cons_succ])
      refine wpAnyH_ready (rs := [13]) (by kernel_rfl) (by simp) ?_
      refine AllReadyH.cons (o := _) rfl (fun K hK => ?_) AllReadyH.nil
      have z0 := x12.c0
      have z1 := x12.c1
      have z2 := x12.f0
      have z3 := x12.f1
      have xx := x12.put one.1 one.2
      have kk : Kept [p12] C4 ((C4.setCell ⟨p12, 0, none⟩ (.int .i64 one.1)).setCell ⟨p12, 1, none⟩ (.int .i64 one.2)) := kput C4 p12 _ _
      have S9 : AS w B bs a n cap l s ((C4.setCell ⟨p12, 0, none⟩ (.int .i64 one.1)).setCell ⟨p12, 1, none⟩ (.int .i64 one.2)) := as_put S4 g12 n12 kk (by rw [HBSZ.out]; exact HBB.out.1) (by rw [HBSZ.out]; exact HBB.out.2)
      go_simp
      refine hK.out _ _ ?_ (fun hHeld => ?_)
      · ((try dsimp only); exact S9.cells)
      clear hK K
      (try simp only [List.getElem_toArray, List.getElem_cons_succ, List.getElem_cons_zero, Act.put, List.setIfInBounds_toArray, List.set_cons_zero, List.set_cons_succ])
      refine wpAnyH_done (by kernel_rfl) ?_ _
      refine NoPanic.normal ?_
      have HS9 := Lib.hid (And.intro S9 xx)
      clear z0 z1 z2 z3 kk S9 xx hHeld x12 S4
      generalize (C4.setCell ⟨p12, 0, none⟩ (.int .i64 one.1)).setCell ⟨p12, 1, none⟩ (.int .i64 one.2) = W9 at *
      obtain ⟨S9, x9'⟩ := HS9.out
      have e0 := x9'.c0; have e1 := x9'.c1
      have bR := bal (w := W9) (.cells #[.int .i64 one.1, .int .i64 one.2] 36)
      have xR := sp_new W9 one
      have SR := S9.later bR
      have hgR := S9.below.size
      have HR := Lib.hid (replace_any (B := B) (f := f) (t := t) (sg := W9.heap.size) (k := 1) (ys := [one]) SR.at_ hft htn hn (by simp) (by have := HBB.out.1; have := HBSZ.out; omega) (fun hh => by have := HBB.out.2 _ hh; have := HBSZ.out; omega) (by simp) xR.lt (del_one one xR HONE0.out))
      rw [← HAD.out] at HR
      have HSR := Lib.hid SR
      clear S9 x9' HS9 bR xR SR
      go_wp2_with fail
      refine HR.out.mono ?_
      rintro e w12 hrep
      have hset := set_rep HH.out HSR.out.below hgR hrep
      clear hrep e0 e1
      rcases hset with ⟨h1, rfl, h2⟩ | ⟨h1, rfl, h2⟩
      · have hR : R = (0, 4, l) := by rw [HAN.out, if_pos h1]
        have HF := Lib.hid (show ChgPost B a cap R w (.returned (.tuple #[.int .i64 0, .int .i64 4])) w12 from by rw [hR]; exact ⟨rfl, h2⟩)
        clear h1 h2 hR
        go_wp2_with fail
        go_ret2
        exact HF.out
      · have hR : R = (cm, 0, L') := by rw [HAN.out, if_neg (by omega)]
        have HF := Lib.hid (show ChgPost B a cap R w (.returned (.tuple #[.int .i64 cm, .int .i64 0])) w12 from by rw [hR]; exact ⟨rfl, h2⟩)
        clear h1 h2 hR
        go_wp2_with fail
        go_ret2
        exact HF.out
    refine AllReadyH.cons (o := _) rfl (fun K hK => ?_) AllReadyH.nil
    have bb := bal (w := C1) (.cells #[.int .i64 0, .int .i64 0] 36)
    have S2 := S1.later bb
    have x12 : SpAt (C1.alloc (.cells #[.int .i64 0, .int .i64 0] 36)) C1.heap.size (0, 0) := sp_new C1 (0, 0)
    have g12 : w.heap.size ≤ C1.heap.size := S1.below.size
    have n12 : bs ≠ C1.heap.size := by have := S1.size; omega
    replace x9 := x9.later bb
    go_simp
    refine hK.out _ _ ?_ (fun hHeld => ?_)
    · ((try dsimp only); exact S2.cells)
    clear hK K bb S1
    (try simp only [List.getElem_toArray, List.getElem_cons_succ, List.getElem_cons_zero, Act.put, List.setIfInBounds_toArray, List.set_cons_zero, List.set_cons_succ])
    generalize C1.alloc (.cells #[.int .i64 0, .int .i64 0] 36) = C2 at *
    generalize hp12 : C1.heap.size = p12 at *
    clear hp12
    refine wpAnyH_ready (rs := [10]) (by kernel_rfl) (by simp) ?_
    refine AllReadyH.cons (o := _) rfl (fun K hK => ?_) AllReadyH.nil
    have rm := HM.out C2 S2
    refine step_append_full C2 rfl (.tmp 39) (.tmp 41) 32 32 rfl 36 i0 (.agg #[.int .i64 0, .int .i64 0]) 2 16 Try.underlying32 hi hz0 hz1 (by decide) hz2 rfl a7 (t - f) (spCells ((l.take t).drop f)) rfl rm (.slice (some ⟨p9, 0, none⟩) 1 1) rfl 1 (by decide) (spCells [s]) (span_src' x9) (by unfold maxLen; omega) (by omega) ?_
    intro a10 c10 C3 r10 bb b10
    rw [← spCells_append] at r10
    have S3 := S2.later bb
    replace x12 := x12.later bb
    refine hK.out _ _ ?_ (fun hHeld => ?_)
    · ((try dsimp only); exact S3.cells)
    clear hK K bb S2 rm b10
    (try simp only [List.getElem_toArray, List.getElem_cons_succ, List.getElem_cons_zero, Act.put, List.setIfInBounds_toArray, List.set_cons_zero, List.set_cons_succ])
    refine wpAnyH_ready (rs := [11]) (by kernel_rfl) (by simp) ?_
    refine AllReadyH.cons (o := _) rfl (fun K hK => ?_) AllReadyH.nil
    go_simp
    (with_reducible refine (hull_any ((l.take t).drop f ++ [s]) _ _ _ C3 (sls_of r10)).mono ?_)
    rw [HONE.out]
    rintro e C4 ⟨rfl, bb⟩
    have S4 := S3.later bb
    replace x12 := x12.later bb
    refine hK.out _ _ ?_ (fun hHeld => ?_)
    · ((try dsimp only); exact S4.cells)
    clear hK K bb S3 r10
    (try simp only [List.getElem_toArray, List.getElem_cons_succ, List.getElem_cons_zero, Act.put, List.setIfInBounds_toArray, List.set_cons_zero, List.set_cons_succ])
    refine wpAnyH_ready (rs := [13]) (by kernel_rfl) (by simp) ?_
    refine AllReadyH.cons (o := _) rfl (fun K hK => ?_) AllReadyH.nil
    have z0 := x12.c0
    have z1 := x12.c1
    have z2 := x12.f0
    have z3 := x12.f1
    have xx := x12.put one.1 one.2
    have kk : Kept [p12] C4 ((C4.setCell ⟨p12, 0, none⟩ (.int .i64 one.1)).setCell ⟨p12, 1, none⟩ (.int .i64 one.2)) := kput C4 p12 _ _
    have S9 : AS w B bs a n cap l s ((C4.setCell ⟨p12, 0, none⟩ (.int .i64 one.1)).setCell ⟨p12, 1, none⟩ (.int .i64 one.2)) := as_put S4 g12 n12 kk (by rw [HBSZ.out]; exact HBB.out.1) (by rw [HBSZ.out]; exact HBB.out.2)
    go_simp
    refine hK.out _ _ ?_ (fun hHeld => ?_)
    · ((try dsimp only); exact S9.cells)
    clear hK K
    (try simp only [List.getElem_toArray, List.getElem_cons_succ, List.getElem_cons_zero, Act.put, List.setIfInBounds_toArray, List.set_cons_zero, List.set_cons_succ])
    refine wpAnyH_done (by kernel_rfl) ?_ _
    refine NoPanic.normal ?_
    have HS9 := Lib.hid (And.intro S9 xx)
    clear z0 z1 z2 z3 kk S9 xx hHeld x12 S4
    generalize (C4.setCell ⟨p12, 0, none⟩ (.int .i64 one.1)).setCell ⟨p12, 1, none⟩ (.int .i64 one.2) = W9 at *
    obtain ⟨S9, x9'⟩ := HS9.out
    have e0 := x9'.c0; have e1 := x9'.c1
    have bR := bal (w := W9) (.cells #[.int .i64 one.1, .int .i64 one.2] 36)
    have xR := sp_new W9 one
    have SR := S9.later bR
    have hgR := S9.below.size
    have HR := Lib.hid (replace_any (B := B) (f := f) (t := t) (sg := W9.heap.size) (k := 1) (ys := [one]) SR.at_ hft htn hn (by simp) (by have := HBB.out.1; have := HBSZ.out; omega) (fun hh => by have := HBB.out.2 _ hh; have := HBSZ.out; omega) (by simp) xR.lt (del_one one xR HONE0.out))
    rw [← HAD.out] at HR
    have HSR := Lib.hid SR
    clear S9 x9' HS9 bR xR SR
    go_wp2_with fail
    refine HR.out.mono ?_
    rintro e w12 hrep
    have hset := set_rep HH.out HSR.out.below hgR hrep
    clear hrep e0 e1
    rcases hset with ⟨h1, rfl, h2⟩ | ⟨h1, rfl, h2⟩
    · have hR : R = (0, 4, l) := by rw [HAN.out, if_pos h1]
      have HF := Lib.hid (show ChgPost B a cap R w (.returned (.tuple #[.int .i64 0, .int .i64 4])) w12 from by rw [hR]; exact ⟨rfl, h2⟩)
      clear h1 h2 hR
      go_wp2_with fail
      go_ret2
      exact HF.out
    · have hR : R = (cm, 0, L') := by rw [HAN.out, if_neg (by omega)]
      have HF := Lib.hid (show ChgPost B a cap R w (.returned (.tuple #[.int .i64 cm, .int .i64 0])) w12 from by rw [hR]; exact ⟨rfl, h2⟩)
      clear h1 h2 hR
      go_wp2_with fail
      go_ret2
      exact HF.out
  refine AllReadyH.cons (o := _) rfl (fun K hK => ?_) AllReadyH.nil
  have bb := bal (w := C0) (.cells #[.int .i64 0, .int .i64 0] 36)
  have S1 := S0.later bb
  have x12 : SpAt (C0.alloc (.cells #[.int .i64 0, .int .i64 0] 36)) C0.heap.size (0, 0) := sp_new C0 (0, 0)
  have g12 : w.heap.size ≤ C0.heap.size := S0.below.size
  have n12 : bs ≠ C0.heap.size := by have := S0.size; omega
  go_simp
  refine hK.out _ _ ?_ (fun hHeld => ?_)
  · ((try dsimp only); exact S1.cells)
  clear hK K bb S0
  (try simp only [List.getElem_toArray, List.getElem_cons_succ, List.getElem_cons_zero, Act.put, List.setIfInBounds_toArray, List.set_cons_zero, List.set_cons_succ])
  generalize C0.alloc (.cells #[.int .i64 0, .int .i64 0] 36) = C1 at *
  generalize hp12 : C0.heap.size = p12 at *
  clear hp12
  refine wpAnyH_ready (rs := [9]) (by kernel_rfl) (by simp) ?_
  refine AllReadyH.cons (o := _) rfl (fun K hK => ?_) AllReadyH.nil
  have bb := bal (w := C1) (.cells #[.int .i64 s.1, .int .i64 s.2] 36)
  have S2 := S1.later bb
  have x9 := sp_new C1 s
  replace x12 := x12.later bb
  go_simp
  refine hK.out _ _ ?_ (fun hHeld => ?_)
  · ((try dsimp only); exact S2.cells)
  clear hK K bb S1
  (try simp only [List.getElem_toArray, List.getElem_cons_succ, List.getElem_cons_zero, Act.put, List.setIfInBounds_toArray, List.set_cons_zero, List.set_cons_succ])
  generalize C1.alloc (.cells #[.int .i64 s.1, .int .i64 s.2] 36) = C2 at *
  generalize hp9 : C1.heap.size = p9 at *
  clear hp9
  refine wpAnyH_ready (rs := [10]) (by kernel_rfl) (by simp) ?_
  refine AllReadyH.cons (o := _) rfl (fun K hK => ?_) AllReadyH.nil
  have rm := HM.out C2 S2
  refine step_append_full C2 rfl (.tmp 39) (.tmp 41) 32 32 rfl 36 i0 (.agg #[.int .i64 0, .int .i64 0]) 2 16 Try.underlying32 hi hz0 hz1 (by decide) hz2 rfl a7 (t - f) (spCells ((l.take t).drop f)) rfl rm (.slice (some ⟨p9, 0, none⟩) 1 1) rfl 1 (by decide) (spCells [s]) (span_src' x9) (by unfold maxLen; omega) (by omega) ?_
  intro a10 c10 C3 r10 bb b10
  rw [← spCells_append] at r10
  have S3 := S2.later bb
  replace x12 := x12.later bb
  refine hK.out _ _ ?_ (fun hHeld => ?_)
  · ((try dsimp only); exact S3.cells)
  clear hK K bb S2 rm b10
  (try simp only [List.getElem_toArray, List.getElem_cons_succ, List.getElem_cons_zero, Act.put, List.setIfInBounds_toArray, List.set_cons_zero, List.set_cons_succ])
  refine wpAnyH_ready (rs := [11]) (by kernel_rfl) (by simp) ?_
  refine AllReadyH.cons (o := _) rfl (fun K hK => ?_) AllReadyH.nil
  go_simp
  (with_reducible refine (hull_any ((l.take t).drop f ++ [s]) _ _ _ C3 (sls_of r10)).mono ?_)
  rw [HONE.out]
  rintro e C4 ⟨rfl, bb⟩
  have S4 := S3.later bb
  replace x12 := x12.later bb
  refine hK.out _ _ ?_ (fun hHeld => ?_)
  · ((try dsimp only); exact S4.cells)
  clear hK K bb S3 r10
  (try simp only [List.getElem_toArray, List.getElem_cons_succ, List.getElem_cons_zero, Act.put, List.setIfInBounds_toArray, List.set_cons_zero, List.set_cons_succ])
  refine wpAnyH_ready (rs := [13]) (by kernel_rfl) (by simp) ?_
  refine AllReadyH.cons (o := _) rfl (fun K hK => ?_) AllReadyH.nil
  have z0 := x12.c0
  have z1 := x12.c1
  have z2 := x12.f0
  have z3 := x12.f1
  have xx := x12.put one.1 one.2
  have kk : Kept [p12] C4 ((C4.setCell ⟨p12, 0, none⟩ (.int .i64 one.1)).setCell ⟨p12, 1, none⟩ (.int .i64 one.2)) := kput C4 p12 _ _
  have S9 : AS w B bs a n cap l s ((C4.setCell ⟨p12, 0, none⟩ (.int .i64 one.1)).setCell ⟨p12, 1, none⟩ (.int .i64 one.2)) := as_put S4 g12 n12 kk (by rw [HBSZ.out]; exact HBB.out.1) (by rw [HBSZ.out]; exact HBB.out.2)
  go_simp
  refine hK.out _ _ ?_ (fun hHeld => ?_)
  · ((try dsimp only); exact S9.cells)
  clear hK K
  (try simp only [List.getElem_toArray, List.getElem_cons_succ, List.getElem_cons_zero, Act.put, List.setIfInBounds_toArray, List.set_cons_zero, List.set_cons_succ])
  refine wpAnyH_done (by kernel_rfl) ?_ _
  refine NoPanic.normal ?_
  have HS9 := Lib.hid (And.intro S9 xx)
  clear z0 z1 z2 z3 kk S9 xx hHeld x12 S4
  generalize (C4.setCell ⟨p12, 0, none⟩ (.int .i64 one.1)).setCell ⟨p12, 1, none⟩ (.int .i64 one.2) = W9 at *
  obtain ⟨S9, x9'⟩ := HS9.out
  have e0 := x9'.c0; have e1 := x9'.c1
  have bR := bal (w := W9) (.cells #[.int .i64 one.1, .int .i64 one.2] 36)
  have xR := sp_new W9 one
  have SR := S9.later bR
  have hgR := S9.below.size
  have HR := Lib.hid (replace_any (B := B) (f := f) (t := t) (sg := W9.heap.size) (k := 1) (ys := [one]) SR.at_ hft htn hn (by simp) (by have := HBB.out.1; have := HBSZ.out; omega) (fun hh => by have := HBB.out.2 _ hh; have := HBSZ.out; omega) (by simp) xR.lt (del_one one xR HONE0.out))
  rw [← HAD.out] at HR
  have HSR := Lib.hid SR
  clear S9 x9' HS9 bR xR SR
  go_wp2_with fail
  refine HR.out.mono ?_
  rintro e w12 hrep
  have hset := set_rep HH.out HSR.out.below hgR hrep
  clear hrep e0 e1
  rcases hset with ⟨h1, rfl, h2⟩ | ⟨h1, rfl, h2⟩
  · have hR : R = (0, 4, l) := by rw [HAN.out, if_pos h1]
    have HF := Lib.hid (show ChgPost B a cap R w (.returned (.tuple #[.int .i64 0, .int .i64 4])) w12 from by rw [hR]; exact ⟨rfl, h2⟩)
    clear h1 h2 hR
    go_wp2_with fail
    go_ret2
    exact HF.out
  · have hR : R = (cm, 0, L') := by rw [HAN.out, if_neg (by omega)]
    have HF := Lib.hid (show ChgPost B a cap R w (.returned (.tuple #[.int .i64 cm, .int .i64 0])) w12 from by rw [hR]; exact ⟨rfl, h2⟩)
    clear h1 h2 hR
    go_wp2_with fail
    go_ret2
    exact HF.out
end Go.Proofs.Ytekddgmmfgpehaa.rn
/-!   Package runs: Remove.
-/
namespace Go.Proofs.Ytekddgmmfgpehaa.rn
open Go.RowKit Go.Shelf aid mem rng sp
attribute [local go_sem ↓] Go.wp_at_zero Go.wp_at_succ
set_option linter.unusedVariables false
set_option linter.unusedSimpArgs false

set_option maxRecDepth 100000 in
theorem row2_new (w : World) (x y : Sp) : Row2 (w.alloc (.cells #[.int .i64 x.1, .int .i64 x.2, .int .i64 y.1, .int .i64 y.2] 36)) w.heap.size x y := heap_alloc_new w _
end Go.Proofs.Ytekddgmmfgpehaa.rn
/-!   A range over a function: what stands behind the assignment may speak of what was told so far. Imports nothing of the program.
-/
namespace Go.Proofs.Ytekddgmmfgpehaa.rng
open Go.RowKit mem
set_option linter.unusedVariables false

/-- **a range over a function**, in a function's body (not within a round) -/
theorem wpIn_rangeP {P : Program} {n : Nat} {α : Type} {g : Operand} {ps : Array Tmp} {assign body : Code} {Q : Exit → Act → World → Prop} {a : Act} {w : World}
    {gf : Nat} {lb : Array Value} (hg : a.eval g = .func (.func gf) #[] lb) (eg : ∀ args w, (callFunc gf args).run P w = .ok (.enter gf args) w)
    {encs : α → Array Value} {L : List α} {A : Nat → Prop} {w0 : World} (hseq : SeqOf P gf lb encs L A w0) (hb0 : Below w0.heap.size w0 w) (hps : ∀ x, (encs x).size = ps.size)
    (I : List α → (Nat → Prop) → World → Prop) (Ix : Code → List α → (Nat → Prop) → World → Prop) (C0 : Nat → Prop) (hC0 : ∀ k, C0 k → (A k ∨ w0.heap.size ≤ k) ∧ k < w.heap.size)
    (hI : Bears w.heap.size I) (hIx : ∀ c, Bears w.heap.size (Ix c)) (h0 : I [] C0 w) (Ax : List α → α → Act → (Nat → Prop) → World → Prop) (hAx : ∀ pre x a', Bears w.heap.size (fun (_ : Unit) C W => Ax pre x a' C W))
    (hassign : ∀ (l : Nat) (pre : List α) (x : α) (C : Nat → Prop) (W : World) (K : Act → World → Prop), I pre C W → pre ++ [x] <+: L → (∀ k, C k → k < W.heap.size) → w.heap.size ≤ W.heap.size →
      (∀ a' C' W', Round C W C' W' → I pre C' W' → Ax pre x a' C' W' → K a' W') →
      assign.wpIn (Fence.wide.inRound l) (n - 1 - 1) P (Exit.then K (fun _ _ _ => False)) { tmps := (ps.zip (encs x)).foldl (fun t (p, v) => t.setIfInBounds p v) a.tmps, defers := [] } W)
    (hbody : ∀ (l : Nat) (pre : List α) (x : α) (a' : Act) (C : Nat → Prop) (W : World), I pre C W → Ax pre x a' C W → pre ++ [x] <+: L → (∀ k, C k → k < W.heap.size) → w.heap.size ≤ W.heap.size →
      body.wpIn (Fence.wide.inRound l) (n - 1 - 1) P (rPost I Ix (pre ++ [x]) C W) a' W)
    (hdone : ∀ (D : Nat) (C : Nat → Prop) (W : World), w.heap.size ≤ D → ¬ C D → I L C W → W.heap[D]? = some (.deferred (some [])) → Q .normal { a with defers := { target := .collected D, args := #[] } :: a.defers } W)
    (hstop : ∀ (D : Nat) (c : Code) (pre : List α) (C : Nat → Prop) (W : World), w.heap.size ≤ D → ¬ C D → Ix c pre C W → W.heap[D]? = some (.deferred (some [])) → c.wpIn Fence.wide n P Q { a with defers := { target := .collected D, args := #[] } :: a.defers } W) :
    (Code.rangeFunc g ps assign body).wpIn Fence.wide n P Q a w := by
  refine wpIn_rangeFunc ?_
  intro fn hfn
  obtain ⟨rec, hrec⟩ : ∃ rec : LoopState → Option Code → Loop, rec = fun st pe => { state := st, pending := pe, fn, tmps := a.tmps, params := ps, assign, body, defers := w.heap.size } := ⟨_, rfl⟩
  obtain ⟨W1, hW1⟩ : ∃ W1, (w.alloc (.deferred (some []))).alloc (.loop (rec .ready none)) = W1 := ⟨_, rfl⟩
  have hL1 : W1.heap[w.heap.size + 1]? = some (.loop (rec .ready none)) := by
    rw [← hW1]; have := World.alloc_heap_new (w.alloc (.deferred (some []))) (.loop (rec .ready none)); rwa [World.size_alloc] at this
  have hK1 : W1.heap[w.heap.size]? = some (.deferred (some [])) := by
    rw [← hW1]; exact (Below.heap_alloc _ _ _ (by simp)).trans (World.alloc_heap_new w _)
  have hz : W1.heap.size = w.heap.size + 1 + 1 := by rw [← hW1]; simp
  have bw1 : Below w.heap.size w W1 := by rw [← hW1]; exact ((Below.refl _ w).alloc (Nat.le_refl _) _).alloc (by simp) _
  have hI1 : I [] C0 W1 := hI _ _ _ _ h0 (Nat.le_refl _) (Steps.of_below bw1 _)
  refine ⟨w.heap.size + 1, [{ target := .collected w.heap.size, args := #[] }], W1, { target := .fn (.func gf) lb, args := #[.func (.yield (w.heap.size + 1)) #[] #[]] }, W1, gf,
    #[.func (.yield (w.heap.size + 1)) #[] #[]] ++ lb, W1, ?_, ?_, ?_, ?_, (fun h => by simp [Fence.wide] at h), ?_⟩
  · rw [← hW1, hrec]; exact run_enterLoop_outer _ _ _ _ _
  · simp only [resolve, hg]
    simp [go_sem]
  · intro f' hf'; trivial
  · simp [invoke, go_sem, eg]
  · refine callsIn_wide.2 ?_
    -- the two blocks of book-keeping are the consumer's, beside the user's own
    let Cj : (Nat → Prop) → Nat → Prop := fun C k => C k ∨ k = w.heap.size ∨ k = w.heap.size + 1
    let J : List α → (Nat → Prop) → World → Prop := fun pre C' W => ∃ C, C' = Cj C ∧ I pre C W ∧ (¬ C w.heap.size ∧ ¬ C (w.heap.size + 1) ∧ ∀ k, C k → k < W.heap.size) ∧ W.heap[w.heap.size + 1]? = some (.loop (rec .ready none)) ∧ W.heap[w.heap.size]? = some (.deferred (some []))
    let Jx : List α → (Nat → Prop) → World → Prop := fun pre C' W => ∃ C c, C' = Cj C ∧ Ix c pre C W ∧ (¬ C w.heap.size ∧ ¬ C (w.heap.size + 1) ∧ ∀ k, C k → k < W.heap.size) ∧ W.heap[w.heap.size + 1]? = some (.loop (rec .done (some c))) ∧ W.heap[w.heap.size]? = some (.deferred (some []))
    have hsm : ∀ {C : Nat → Prop} {X Y : World}, Steps (fun k => k < W1.heap.size ∨ Cj C k) X Y → Steps (fun k => k < w.heap.size ∨ C k) X Y := fun h => h.mono (fun k _ hk => by
      rcases hk with hk | hk
      · exact .inl (by omega)
      · exact .inr (.inl hk))
    refine (hseq (w.heap.size + 1) J Jx (Cj C0) W1 (hb0.trans (bw1.mono hb0.size)) ?_ ?_ ?_ ?_ ?_).mono ?_
    · intro k hk
      have h1 := hb0.size
      rcases hk with hk | hk | hk
      · exact ⟨(hC0 k hk).1, by have := (hC0 k hk).2; omega⟩
      · exact ⟨.inr (by omega), by omega⟩
      · exact ⟨.inr (by omega), by omega⟩
    · rintro s C' X Y ⟨C, rfl, hi, ⟨h1, h2, h3⟩, hl, hk⟩ hn hs
      exact ⟨C, rfl, hI _ _ _ _ hi (by omega) (hsm hs), ⟨h1, h2, fun k hk => Nat.lt_of_lt_of_le (h3 k hk) hs.size⟩, hs.heap (.inr (.inr (.inr rfl))) hl, hs.heap (.inr (.inr (.inl rfl))) hk⟩
    · rintro s C' X Y ⟨C, c, rfl, hi, ⟨h1, h2, h3⟩, hl, hk⟩ hn hs
      exact ⟨C, c, rfl, hIx c _ _ _ _ hi (by omega) (hsm hs), ⟨h1, h2, fun k hk => Nat.lt_of_lt_of_le (h3 k hk) hs.size⟩, hs.heap (.inr (.inr (.inr rfl))) hl, hs.heap (.inr (.inr (.inl rfl))) hk⟩
    · -- one round
      rintro pre x C' W ⟨C, rfl, hi, ⟨h1, h2, h3⟩, hl, hk⟩ hWs hpre
      have hlt : w.heap.size + 1 < W.heap.size := (Array.getElem?_eq_some_iff.1 hl).1
      have hy := run_yield (P := P) (args := encs x) hl (by rw [hrec]; exact hps x)
      rw [hrec] at hy
      refine Yd.of (m := n - 1 - 1) ⟨fn, _, assign, body, hy, roundIn_of_wpIn hfn (hassign _ pre x C W _ hi hpre h3 (by omega) ?_)⟩
      clear hy
      intro a' Ca Wa hra hia hax
      have h1a : ¬ Ca w.heap.size := fun e => by rcases hra.2 _ e with e | e; exact h1 e; omega
      have h2a : ¬ Ca (w.heap.size + 1) := fun e => by rcases hra.2 _ e with e | e; exact h2 e; omega
      have h3a : ∀ k, Ca k → k < Wa.heap.size := fun k hk => by rcases hra.2 k hk with e | e; exact Nat.lt_of_lt_of_le (h3 k e) hra.1.size; exact e.2
      have hla := hra.1.heap h2 hl
      have hka := hra.1.heap h1 hk
      have hlta : w.heap.size + 1 < Wa.heap.size := (Array.getElem?_eq_some_iff.1 hla).1
      refine ⟨_, run_beginRound hla (by rw [hrec]), ?_⟩
      obtain ⟨Wb, hWb⟩ : ∃ Wb, Wb = Wa.putObj (w.heap.size + 1) (.loop { rec .ready none with state := .busy }) := ⟨_, rfl⟩
      rw [← hWb]
      have hlb : Wb.heap[w.heap.size + 1]? = some (.loop { rec .ready none with state := .busy }) := by rw [hWb]; exact World.putObj_heap_same hlta
      have hkb : Wb.heap[w.heap.size]? = some (.deferred (some [])) := by rw [hWb]; exact (World.putObj_heap_other (by omega)).trans hka
      have sb : Steps (fun k => k < w.heap.size ∨ Ca k) Wa Wb := by rw [hWb]; exact Steps.putObj _ _ _ _ (by rintro (e | e); omega; exact h2a e)
      have rb : Round (Cj Ca) Wa (Cj Ca) Wb := ⟨by rw [hWb]; exact Steps.putObj _ _ _ _ (fun e => e (.inr (.inr rfl))), fun k hk => .inl hk⟩
      have hib := hI _ _ _ _ hia (by omega) sb
      have haxb := hAx pre x a' () _ _ _ hax (by omega) sb
      have hzb : Wb.heap.size = Wa.heap.size := by rw [hWb]; simp
      have ra : Round (Cj C) W (Cj Ca) Wa := ⟨hra.1.mono (fun k _ hk e => hk (.inl e)), fun k hk => by
        rcases hk with hk | hk
        · rcases hra.2 k hk with e | e; exact .inl (.inl e); exact .inr e
        · exact .inl (.inr hk)⟩
      have rab := ra.trans rb
      refine wpIn_mono (hbody _ pre x a' Ca Wb hib haxb hpre (fun k hk => by rw [hzb]; exact h3a k hk) (by omega)) ?_
      have fin : ∀ (jump : Option Code) (C3 : Nat → Prop) (W3 : World), Round Ca Wb C3 W3 →
          (Instr.endRound (w.heap.size + 1) jump).run P W3 = .ok (.bool jump.isNone) (W3.putObj (w.heap.size + 1) (.loop (rec (if jump.isNone then .ready else .done) jump))) ∧
          (W3.putObj (w.heap.size + 1) (.loop (rec (if jump.isNone then .ready else .done) jump))).heap[w.heap.size + 1]? = some (.loop (rec (if jump.isNone then .ready else .done) jump)) ∧
          (W3.putObj (w.heap.size + 1) (.loop (rec (if jump.isNone then .ready else .done) jump))).heap[w.heap.size]? = some (.deferred (some [])) ∧
          Steps (fun k => k < w.heap.size ∨ C3 k) W3 (W3.putObj (w.heap.size + 1) (.loop (rec (if jump.isNone then .ready else .done) jump))) ∧
          Round (Cj C) W (Cj C3) (W3.putObj (w.heap.size + 1) (.loop (rec (if jump.isNone then .ready else .done) jump))) ∧
          (¬ C3 w.heap.size ∧ ¬ C3 (w.heap.size + 1) ∧ ∀ k, C3 k → k < W3.heap.size) ∧ w.heap.size ≤ W3.heap.size := fun jump C3 W3 hr3 => by
        have h13 : ¬ C3 w.heap.size := fun e => by rcases hr3.2 _ e with e | e; exact h1a e; omega
        have h23 : ¬ C3 (w.heap.size + 1) := fun e => by rcases hr3.2 _ e with e | e; exact h2a e; omega
        have hl3 := hr3.1.heap h2a hlb
        have hk3 := hr3.1.heap h1a hkb
        have := run_endRound (P := P) jump hl3
        have hlt3 := (Array.getElem?_eq_some_iff.1 hl3).1
        rw [hrec] at this ⊢
        refine ⟨this, World.putObj_heap_same hlt3, (World.putObj_heap_other (by omega)).trans hk3, Steps.putObj _ _ _ _ (by rintro (e | e); omega; exact h23 e), ?_, ⟨h13, h23, fun k hk => by rcases hr3.2 k hk with e | e; exact Nat.lt_of_lt_of_le (by rw [hzb]; exact h3a k e) hr3.1.size; exact e.2⟩, by omega⟩
        refine (rab.trans (C'' := Cj C3) (D := W3) ⟨hr3.1.mono (fun k _ hk e => hk (.inl e)), fun k hk => ?_⟩).trans ⟨Steps.putObj _ _ _ _ (fun e => e (.inr (.inr rfl))), fun k hk => .inl hk⟩
        rcases hk with hk | hk
        · rcases hr3.2 k hk with e | e; exact .inl (.inl e); exact .inr e
        · exact .inl (.inr hk)
      rintro e a3 W3 hp
      cases e with
      | normal =>
        obtain ⟨C3, hr3, hi3⟩ := hp
        obtain ⟨hr, hl4, hk4, s4, r4, ⟨b1, b2, b3⟩, b4⟩ := fin none C3 W3 hr3
        exact ⟨_, _, hr, Cj C3, r4, .inl ⟨rfl, C3, rfl, hI _ _ _ _ hi3 b4 s4, ⟨b1, b2, fun k hk => by simpa using b3 k hk⟩, hl4, hk4⟩⟩
      | ret =>
        obtain ⟨C3, hr3, hi3⟩ := hp
        obtain ⟨hr, hl4, hk4, s4, r4, ⟨b1, b2, b3⟩, b4⟩ := fin (some .ret) C3 W3 hr3
        exact ⟨_, _, hr, Cj C3, r4, .inr ⟨rfl, C3, .ret, rfl, hIx _ _ _ _ _ hi3 b4 s4, ⟨b1, b2, fun k hk => by simpa using b3 k hk⟩, hl4, hk4⟩⟩
      | exit id =>
        obtain ⟨C3, hr3, hi3⟩ := hp
        obtain ⟨hr, hl4, hk4, s4, r4, ⟨b1, b2, b3⟩, b4⟩ := fin (some (.exit id)) C3 W3 hr3
        exact ⟨_, _, hr, Cj C3, r4, .inr ⟨rfl, C3, .exit id, rfl, hIx _ _ _ _ _ hi3 b4 s4, ⟨b1, b2, fun k hk => by simpa using b3 k hk⟩, hl4, hk4⟩⟩
      | goto t =>
        obtain ⟨C3, hr3, hi3⟩ := hp
        obtain ⟨hr, hl4, hk4, s4, r4, ⟨b1, b2, b3⟩, b4⟩ := fin (some (.goto t)) C3 W3 hr3
        exact ⟨_, _, hr, Cj C3, r4, .inr ⟨rfl, C3, .goto t, rfl, hIx _ _ _ _ _ hi3 b4 s4, ⟨b1, b2, fun k hk => by simpa using b3 k hk⟩, hl4, hk4⟩⟩
      | panic ch => exact hp.elim
      | outgrown => exact hp.elim
    · exact ⟨C0, rfl, hI1, ⟨fun e => by have := (hC0 _ e).2; omega, fun e => by have := (hC0 _ e).2; omega, fun k hk => by have := (hC0 _ hk).2; omega⟩, hL1, hK1⟩
    · -- behind the iterator
      rintro e W2 ⟨⟨v, rfl⟩, _, (⟨C, rfl, hi, ⟨h1, h2, h3⟩, hl, hk⟩ | ⟨pre, C, c, rfl, hi, ⟨h1, h2, h3⟩, hl, hk⟩)⟩
      · have hlt := (Array.getElem?_eq_some_iff.1 hl).1
        have sp : ∀ o, Steps (fun k => k < w.heap.size ∨ C k) W2 (W2.putObj (w.heap.size + 1) o) := fun o => Steps.putObj _ _ _ _ (by rintro (e | e); omega; exact h2 e)
        exact ⟨none, _, by have := run_endLoop (P := P) hl (by rw [hrec]; simp); rw [hrec] at this; exact this, hdone _ C _ (Nat.le_refl _) h1 (hI _ _ _ _ hi (by omega) (sp _)) ((World.putObj_heap_other (by omega)).trans hk)⟩
      · have hlt := (Array.getElem?_eq_some_iff.1 hl).1
        have sp : ∀ o, Steps (fun k => k < w.heap.size ∨ C k) W2 (W2.putObj (w.heap.size + 1) o) := fun o => Steps.putObj _ _ _ _ (by rintro (e | e); omega; exact h2 e)
        exact ⟨some c, _, by have := run_endLoop (P := P) hl (by rw [hrec]; simp); rw [hrec] at this; exact this, hstop _ c pre C _ (Nat.le_refl _) h1 (hIx _ _ _ _ _ hi (by omega) (sp _)) ((World.putObj_heap_other (by omega)).trans hk)⟩

/-- a range whose assignment makes one box -/
theorem wpIn_rangeBoxP {P : Program} {n : Nat} {α : Type} {g : Operand} {ps : Array Tmp} {assign body : Code} {Q : Exit → Act → World → Prop} {a : Act} {w : World} (fr : Nat → α → Array Value → Array Value)
    {gf : Nat} {lb : Array Value} (hg : a.eval g = .func (.func gf) #[] lb) (eg : ∀ args w, (callFunc gf args).run P w = .ok (.enter gf args) w)
    {encs : α → Array Value} {L : List α} {A : Nat → Prop} {w0 : World} (hseq : SeqOf P gf lb encs L A w0) (hb0 : Below w0.heap.size w0 w) (hps : ∀ x, (encs x).size = ps.size)
    (I : List α → (Nat → Prop) → World → Prop) (Ix : Code → List α → (Nat → Prop) → World → Prop) (C0 : Nat → Prop) (hC0 : ∀ k, C0 k → (A k ∨ w0.heap.size ≤ k) ∧ k < w.heap.size)
    (hI : Bears w.heap.size I) (hIx : ∀ c, Bears w.heap.size (Ix c)) (h0 : I [] C0 w) (Bx : List α → Nat → α → (Nat → Prop) → World → Prop) (hBx : ∀ pre b x, Bears w.heap.size (fun (_ : Unit) C W => Bx pre b x C W))
    (hassign : ∀ (l : Nat) (pre : List α) (x : α) (C : Nat → Prop) (W : World) (K : Act → World → Prop), I pre C W → pre ++ [x] <+: L → (∀ k, C k → k < W.heap.size) → w.heap.size ≤ W.heap.size →
      (∀ b C' W', Round C W C' W' → I pre C' W' → Bx pre b x C' W' → K { tmps := fr b x a.tmps, defers := [] } W') →
      assign.wpIn (Fence.wide.inRound l) (n - 1 - 1) P (Exit.then K (fun _ _ _ => False)) { tmps := (ps.zip (encs x)).foldl (fun t (p, v) => t.setIfInBounds p v) a.tmps, defers := [] } W)
    (hbody : ∀ (l : Nat) (pre : List α) (x : α) (b : Nat) (C : Nat → Prop) (W : World), I pre C W → Bx pre b x C W → pre ++ [x] <+: L → (∀ k, C k → k < W.heap.size) → w.heap.size ≤ W.heap.size →
      body.wpIn (Fence.wide.inRound l) (n - 1 - 1) P (rPost I Ix (pre ++ [x]) C W) { tmps := fr b x a.tmps, defers := [] } W)
    (hdone : ∀ (D : Nat) (C : Nat → Prop) (W : World), w.heap.size ≤ D → ¬ C D → I L C W → W.heap[D]? = some (.deferred (some [])) → Q .normal { a with defers := { target := .collected D, args := #[] } :: a.defers } W)
    (hstop : ∀ (D : Nat) (c : Code) (pre : List α) (C : Nat → Prop) (W : World), w.heap.size ≤ D → ¬ C D → Ix c pre C W → W.heap[D]? = some (.deferred (some [])) → c.wpIn Fence.wide n P Q { a with defers := { target := .collected D, args := #[] } :: a.defers } W) :
    (Code.rangeFunc g ps assign body).wpIn Fence.wide n P Q a w :=
  wpIn_rangeP hg eg hseq hb0 hps I Ix C0 hC0 hI hIx h0 (fun pre x a' C W => ∃ b, a' = { tmps := fr b x a.tmps, defers := [] } ∧ Bx pre b x C W)
    (fun pre x a' s C W1 W2 h hn hs => by obtain ⟨b, h1, h2⟩ := h; exact ⟨b, h1, hBx pre b x s C W1 W2 h2 hn hs⟩)
    (fun l pre x C W K hi hp hc hz hK => hassign l pre x C W K hi hp hc hz (fun b C' W' hr hi' hb => hK _ C' W' hr hi' ⟨b, rfl, hb⟩))
    (fun l pre x a' C W hi ha hp hc hz => by obtain ⟨b, rfl, hb⟩ := ha; exact hbody l pre x b C W hi hb hp hc hz) hdone hstop

end Go.Proofs.Ytekddgmmfgpehaa.rng
/-!   Package runs: Gaps.
-/
namespace Go.Proofs.Ytekddgmmfgpehaa.rn
open Go.RowKit Go.Shelf aid mem rng sp
attribute [local go_sem] Oper.semAt_some
set_option linter.unusedVariables false
set_option linter.unusedSimpArgs false

/-- what is left of a span behind some parts, and the gaps ahead of that -/
def restA (pre : List Sp) (s : Sp) : Sp := pre.foldl (fun r p => fromP r p.2) s
def doneL : List Sp → Sp → List Sp
  | [], _ => []
  | p :: ps, r => ne (belowP r p.1) ++ doneL ps (fromP r p.2)
set_option maxRecDepth 100000 in
theorem restA_snoc (pre : List Sp) (s p : Sp) : restA (pre ++ [p]) s = fromP (restA pre s) p.2 := by unfold restA; rw [List.foldl_append]; rfl
set_option maxRecDepth 100000 in
theorem doneL_snoc : ∀ (pre : List Sp) (s p : Sp), doneL (pre ++ [p]) s = doneL pre s ++ ne (belowP (restA pre s) p.1) := by
  intro pre
  induction pre with
  | nil => intro s p; simp [doneL, restA]
  | cons x pre ih =>
    intro s p
    rw [List.cons_append, doneL, ih, doneL, List.append_assoc]
    rfl
set_option maxRecDepth 100000 in
theorem gaps_cut : ∀ (pre post : List Sp) (s : Sp), gapsC (pre ++ post) s = doneL pre s ++ gapsC post (restA pre s) := by
  intro pre
  induction pre with
  | nil => intro post s; rfl
  | cons x pre ih =>
    intro post s
    rw [List.cons_append, gapsC, ih, doneL, List.append_assoc]
    rfl
/-- what Gaps' iterator knows between two rounds -/
structure GIc (W : World) (C0 : Nat → Prop) (F l : Nat) (s : Sp) (J : List Sp → (Nat → Prop) → World → Prop) (pre : List Sp) (Co C : Nat → Prop) (X : World) : Prop where
  sub : ∀ k, Co k → C k
  cF : C F
  j : J (doneL pre s) Co X
  it : It C0 W Co X
  nF : ¬ Co F
  nX : ¬ Co W.heap.size
  rest : SpAt X F (restA pre s)
  yd : X.cell? ⟨W.heap.size, 0, none⟩ = some (.func (.yield l) #[] #[])
def GI (W : World) (C0 : Nat → Prop) (F l : Nat) (s : Sp) (J : List Sp → (Nat → Prop) → World → Prop) (pre : List Sp) (C : Nat → Prop) (X : World) : Prop := ∃ Co, GIc W C0 F l s J pre Co C X
def GX (W : World) (Jx : List Sp → (Nat → Prop) → World → Prop) (c : Code) (pre : List Sp) (C : Nat → Prop) (X : World) : Prop := c = .ret ∧ ∃ Co told, (∀ k, Co k → C k) ∧ Jx told Co X
/-- a part's box beside it -/
def GB (W : World) (C0 : Nat → Prop) (F l : Nat) (s : Sp) (J : List Sp → (Nat → Prop) → World → Prop) (D : Nat) (pre : List Sp) (b : Nat) (y : Sp) (C : Nat → Prop) (X : World) : Prop :=
  ∃ Co, GIc W C0 F l s J pre Co C X ∧ SpAt X b y ∧ C b ∧ ¬ Co b ∧ D ≤ b
set_option maxRecDepth 100000 in
theorem gic_own {W : World} {C0 : Nat → Prop} {F l D : Nat} {s : Sp} {J : List Sp → (Nat → Prop) → World → Prop} {pre : List Sp} {Co C : Nat → Prop} {X Y : World} (hJ : Bears W.heap.size J) (hD : W.heap.size < D) (h : GIc W C0 F l s J pre Co C X) (hs : rng.Steps (fun k => k < D ∨ C k) X Y) : GIc W C0 F l s J pre Co C Y := by
  have hs' : rng.Steps (fun k => k < W.heap.size ∨ Co k) X Y := hs.mono (fun k _ hk => by
    rcases hk with hk | hk
    · exact .inl (by omega)
    · exact .inr (h.sub k hk))
  exact ⟨h.sub, h.cF, hJ _ _ _ _ h.j h.it.kept.size hs', h.it.own hs', h.nF, h.nX, hs.heap (.inr h.cF) h.rest, hs.cell (.inl (by simpa using hD)) h.yd⟩
set_option maxRecDepth 100000 in
theorem gaps_prefix {L pre : List Sp} {y s : Sp} (hp : pre ++ [y] <+: L) : doneL pre s ++ ne (belowP (restA pre s) y.1) <+: gapsC L s := by
  obtain ⟨t, rfl⟩ := hp
  rw [gaps_cut, doneL_snoc]
  exact List.prefix_append _ _
set_option maxRecDepth 100000 in
theorem gi_end {W : World} {C0 : Nat → Prop} {F l' : Nat} {s y r2 : Sp} {J : List Sp → (Nat → Prop) → World → Prop} {pre told : List Sp} {Co Co2 C : Nat → Prop} {X V V1 : World} (hJ : Bears W.heap.size J) (hWF : W.heap.size < F) (hI : GIc W C0 F l' s J pre Co C X) (hFX : F < X.heap.size) (hWX : W.heap.size ≤ X.heap.size)
    (e2 : restA (pre ++ [y]) s = r2) (e3 : doneL (pre ++ [y]) s = told) (hxv : Round C X (fun k => C k ∨ Co2 k) V) (hj : J told Co2 V) (hit : It C0 W Co2 V) (nF : ¬ Co2 F) (nX : ¬ Co2 W.heap.size) {q : Sp} (hrF : SpAt V F q) (hyd : V.cell? ⟨W.heap.size, 0, none⟩ = some (.func (.yield l') #[] #[]))
    (h1 : Below V.heap.size V V1) :
    ∃ C', Round C X C' ((V1.setCell ⟨F, 0, none⟩ (.int .i64 r2.1)).setCell ⟨F, 1, none⟩ (.int .i64 r2.2)) ∧ GI W C0 F l' s J (pre ++ [y]) C' ((V1.setCell ⟨F, 0, none⟩ (.int .i64 r2.1)).setCell ⟨F, 1, none⟩ (.int .i64 r2.2)) := by
  have hF1 := hrF.later h1
  have hput := hF1.put r2.1 r2.2
  have hst : ∀ K : Nat → Prop, ¬ K F → rng.Steps K V ((V1.setCell ⟨F, 0, none⟩ (.int .i64 r2.1)).setCell ⟨F, 1, none⟩ (.int .i64 r2.2)) := fun K hK =>
    ((Steps.of_below h1 K).trans (rng.Steps.setCell K V1 ⟨F, 0, none⟩ _ hK)).trans (rng.Steps.setCell K _ ⟨F, 1, none⟩ _ hK)
  generalize (V1.setCell ⟨F, 0, none⟩ (.int .i64 r2.1)).setCell ⟨F, 1, none⟩ (.int .i64 r2.2) = Y at *
  have s1 := hst (fun k => k < W.heap.size ∨ Co2 k) (by rintro (e | e); omega; exact nF e)
  refine ⟨fun k => C k ∨ Co2 k, hxv.trans ⟨hst _ (fun e => e (.inl hI.cF)), fun k hk => .inl hk⟩, Co2, ⟨fun k hk => .inr hk, .inl hI.cF, ?_, hit.own s1, nF, nX, by rw [e2]; exact hput, ?_⟩⟩
  · rw [e3]; exact hJ _ _ _ _ hj hit.kept.size s1
  · exact (hst (fun k => k = W.heap.size) (by omega)).cell rfl hyd
set_option maxRecDepth 100000 in
set_option maxHeartbeats 4000000 in
theorem gaps1_seq {w : World} {v : Value} {a : Option Addr} {n cap : Nat} {l : List Sp} {s : Sp} {bx bs : Nat} {A : Nat → Prop} (hr : Rv w v a n cap l) (hl : Rn l) (hn : n < 1000000000000) (hx : w.cell? ⟨bx, 0, none⟩ = some v) (hs : SpAt w bs s) (hax : ¬ A bx) (has : ¬ A bs) (har : ∀ b ∈ blk a cap, ¬ A b) :
    SeqOf Try.prog 51 #[.pointer (some ⟨bs, 0, none⟩), .pointer (some ⟨bx, 0, none⟩)] spE (gapsC (partsL l s) s) A w := by
  intro l' J Jx C0 W hW hC hJ hJx hY h0
  obtain ⟨p, rfl⟩ := hr.ptr
  have hblk := fun b hb => (hr.row.lt b hb).1
  have c2 := kcell hW hx
  have sW := hs.later hW
  have rW := hr.later hW
  have nr : ∀ b ∈ blk a cap, ¬ C0 b := fun b hb e => by
    rcases (hC _ e).1 with q | q
    · exact har b hb q
    · have := hblk b hb; omega
  have hwW := hW.size
  show Calls Try.prog 51 #[.func (.yield l') #[] #[], .pointer (some ⟨bs, 0, none⟩), .pointer (some ⟨bx, 0, none⟩)] W _
  refine (callsIn_wide (n := 6)).1 ?_
  refine callsIn_of_wp_marks Try.func51 rfl trivial ?_ rfl
  simp only [Try.ntmps51, List.size_toArray, List.length_cons, List.length_nil, Nat.reduceAdd, Nat.reduceSub, Array.replicate_succ, Array.replicate_zero, List.push_toArray, List.append_toArray, List.nil_append, List.cons_append]
  have b1 := bal (w := W) (.cells #[.func (.yield l') #[] #[]] 96)
  have y1 := heap_alloc_new W (.cells #[.func (.yield l') #[] #[]] 96)
  have hz1 : (W.alloc (.cells #[.func (.yield l') #[] #[]] 96)).heap.size = W.heap.size + 1 := by simp
  have b2 := bal (w := W.alloc (.cells #[.func (.yield l') #[] #[]] 96)) (.cells #[.int .i64 s.1, .int .i64 s.2] 36)
  have f2 := sp_new (W.alloc (.cells #[.func (.yield l') #[] #[]] 96)) s
  rw [hz1] at f2
  have s1 := sW.later b1
  have q0 := s1.c0; have q1 := s1.c1
  have b12 := b1.trans (b2.mono b1.size)
  have s2 := s1.later b2
  have r0 := s2.c0; have r1 := s2.c1
  have r2 := kcell b12 c2
  have y2 := (b2.block _ (lt_of_block y1)).trans y1
  have hz2 : ((W.alloc (.cells #[.func (.yield l') #[] #[]] 96)).alloc (.cells #[.int .i64 s.1, .int .i64 s.2] 36)).heap.size = W.heap.size + 1 + 1 := by simp
  have HY := Lib.hid hY
  have HJ := Lib.hid hJ
  have HJX := Lib.hid hJx
  have HC := Lib.hid hC
  have H0 := Lib.hid h0
  have HP := Lib.hid (parts_any (rW.later b12) hl hn s (fun k => C0 k ∨ k = W.heap.size + 1) (fun k hk => by
    rcases hk with hk | rfl
    · have := (hC k hk).2; omega
    · omega) (fun b hb e => by
    rcases e with e | rfl
    · exact nr b hb e
    · have := hblk _ hb; omega))
  have HS2 := Lib.hid (And.intro b12 (And.intro y2 (And.intro f2 hz2)))
  clear hY hJ hJx hC h0 hs hx c2 sW rW hr s1 s2 b1 b2 b12 y1 y2 f2 hz1 hz2 nr har hW hblk
  gi_wp2
  refine ⟨trivial, ?_⟩
  refine (callsIn_wide.2 HP.out).mono ?_
  rintro e w5 ⟨lb, rfl, hseq, h5⟩
  obtain ⟨b12, y2, f2, hz2⟩ := HS2.out
  have hb5 := b12.trans (h5.mono b12.size)
  have hz5 := h5.size
  rw [hz2] at hz5
  have hF5 := f2.later h5
  have hY5 := cofr ((h5.block _ (lt_of_block y2)).trans y2) 0 _ rfl
  have HSEQ := Lib.hid hseq
  clear hseq h5 b12 y2 f2 hz2 HS2 HP q0 q1 r0 r1 r2
  obtain ⟨F, hFe⟩ : ∃ F, F = W.heap.size + 1 := ⟨_, rfl⟩
  rw [← hFe] at hF5 HSEQ hz5 ⊢
  have hWF : W.heap.size < F := by omega
  have hF5s : F < w5.heap.size := by omega
  clear hFe
  have hss := Steps.of_below hb5 (fun k => k < W.heap.size ∨ C0 k)
  have HGI : Hid (GI W C0 F l' s J [] (fun k => C0 k ∨ k = F) w5) := Lib.hid ⟨C0, ⟨fun k hk => .inl hk, .inr rfl, HJ.out _ _ _ _ H0.out (Nat.le_refl _) hss, (It.refl (fun k hk => (HC.out k hk).2)).own hss, fun e => by have := (HC.out _ e).2; omega, fun e => by have := (HC.out _ e).2; omega, hF5, hY5⟩⟩
  clear hss hF5 hY5
  generalize hLL : partsL l s = L at *
  have HLL := Lib.hid hLL
  clear hLL
  have hmo : Try.prog.follows .mixedOrders = true := by kernel_rfl
  gi_wp2
  refine wpIn_rangeBoxP (fun (b : Nat) (y : Sp) (t : Array Value) => (t.setIfInBounds 11 (spV y)).setIfInBounds 5 (.pointer (some ⟨b, 0, none⟩))) (gf := 80) (lb := lb) (L := L) (A := fun k => C0 k ∨ k = F) (w0 := w5) (encs := spE) rfl eg_parts HSEQ.out (Below.refl _ _) (fun _ => rfl)
    (GI W C0 F l' s J) (GX W Jx) (fun k => C0 k ∨ k = F) ?hc0 ?hI ?hIx HGI.out (GB W C0 F l' s J w5.heap.size) ?hB ?assign ?body ?done ?stop
  case hc0 =>
    intro k hk
    refine ⟨.inl hk, ?_⟩
    rcases hk with hk | rfl
    · have := (HC.out k hk).2; have := hb5.size; omega
    · exact hF5s
  case hI =>
    rintro pre C X Y ⟨Co, h⟩ hz hs
    exact ⟨Co, gic_own HJ.out (by omega) h hs⟩
  case hIx =>
    rintro c pre C X Y ⟨rfl, Co, told, h1, h2⟩ hz hs
    exact ⟨rfl, Co, told, h1, HJX.out _ _ _ _ h2 (by have := hb5.size; omega) (hs.mono (fun k _ hk => by
      rcases hk with hk | hk
      · exact .inl (by have := hb5.size; omega)
      · exact .inr (h1 k hk)))⟩
  case hB =>
    rintro pre b y _ C X Y ⟨Co, h, h1, h2, h3, h4⟩ hz hs
    exact ⟨Co, gic_own HJ.out (by omega) h hs, hs.heap (.inr h2) h1, h2, h3, h4⟩
  case assign =>
    rintro l2 pre y C X K ⟨Co, hI⟩ hp hc hz hK
    have b1 := bal (w := X) (.cells #[.int .i64 y.1, .int .i64 y.2] 36)
    have hg := gic_own (D := w5.heap.size) HJ.out (by omega) hI (Steps.of_below b1 _)
    have hg2 : GIc W C0 F l' s J pre Co (fun k => C k ∨ k = X.heap.size) (X.alloc (.cells #[.int .i64 y.1, .int .i64 y.2] 36)) :=
      ⟨fun k hk => .inl (hg.sub k hk), .inl hg.cF, hg.j, hg.it, hg.nF, hg.nX, hg.rest, hg.yd⟩
    have HK := Lib.hid (hK X.heap.size (fun k => C k ∨ k = X.heap.size) _ ⟨Steps.of_below b1 _, fun k hk => by rcases hk with hk | rfl; exact .inl hk; exact .inr ⟨Nat.le_refl _, by simp⟩⟩
      ⟨Co, hg2⟩ ⟨Co, hg2, sp_new X y, .inr rfl, fun e => by have := (hI.it.grow _ e).2; omega, hz⟩)
    clear hK hI hp hc b1 hg hg2
    gi_wp2
    exact HK.out
  case body =>
    rintro l2 pre y b C X _ ⟨Co, hI, hyb, hCb, hnb, hbD⟩ hp hcc hz
    have hpr := gaps_prefix (s := s) hp
    have hpr2 := restA_snoc pre s y
    have hpr3 := doneL_snoc pre s y
    have HB := Lib.hid (fun X => below_any (restA pre s) y.1 X)
    have HFR := Lib.hid (fun X => from_any (restA pre s) y.2 X)
    have hrF := hI.rest
    have HI := Lib.hid hI
    generalize restA pre s = r at *
    generalize belowP r y.1 = m at *
    generalize fromP r y.2 = r2 at *
    have HR2 := Lib.hid hpr2
    have HR3 := Lib.hid hpr3
    have HPR := Lib.hid hpr
    have HLN := Lib.hid (fun X => len_any m X)
    have hyd := hI.yd
    have e0 := hrF.c0; have e1 := hrF.c1; have e2 := hyb.c0; have e3 := hyb.c1
    have hFX := lt_of_block hrF
    have hbX := lt_of_block hyb
    have hXW : W.heap.size < X.heap.size := World.block_lt_of_cell? X _ hyd
    have hbF : b ≠ F := by omega
    clear hI hpr hpr2 hpr3 hp hcc HSEQ HGI
    simp only [List.setIfInBounds_toArray, List.set_cons_zero, List.set_cons_succ]
    generalize hRP : rPost (GI W C0 F l' s J) (GX W Jx) (pre ++ [y]) C X = RP at *
    have HRN := Lib.hid (fun (C' : Nat → Prop) (W' : World) (hr : Round C X C' W') (hg : GI W C0 F l' s J (pre ++ [y]) C' W') (a' : Act) => show RP .normal a' W' from by rw [← hRP]; exact ⟨C', hr, hg⟩)
    have HRR := Lib.hid (fun (C' : Nat → Prop) (W' : World) (hr : Round C X C' W') (hg : GX W Jx .ret (pre ++ [y]) C' W') (a' : Act) => show RP .ret a' W' from by rw [← hRP]; exact ⟨C', hr, hg⟩)
    clear hRP
    gi_wp2
    refine ⟨trivial, ?_⟩
    refine (callsIn_wide.2 (HB.out _)).mono ?_
    rintro e w2 ⟨rfl, h2⟩
    have b3 := bal (w := w2) (.cells #[.int .i64 m.1, .int .i64 m.2] 36)
    have h3 := h2.trans (b3.mono h2.size)
    have m3 := sp_new w2 m
    have hyd3 := kcell h3 hyd
    clear e0 e1 e2 e3 b3 h2 HB
    have d0 := m3.c0; have d1 := m3.c1
    gi_wp2
    refine ⟨trivial, ?_⟩
    refine (callsIn_wide.2 (HLN.out _)).mono ?_
    rintro e w4 ⟨rfl, h4⟩
    have h34 := h3.trans (h4.mono h3.size)
    have m4 := m3.later h4
    have hyd4 := kcell h34 hyd
    have rF4 := hrF.later h34
    have y4 := hyb.later h34
    clear d0 d1 hyd3 m3 h4 h3 HLN
    have hj4 := HJ.out _ _ _ _ HI.out.j HI.out.it.kept.size (Steps.of_below h34 (fun k => k < W.heap.size ∨ Co k))
    have hI4 := HI.out.it.own (Steps.of_below h34 (fun k => k < W.heap.size ∨ Co k))
    have hR4 : Round C X C w4 := Round.of_below h34 C
    by_cases hm : 0 < lenI m
    · have hne : ne m = [m] := by unfold ne; rw [if_neg (by omega)]
      have hpr := HPR.out
      rw [hne] at hpr
      have hyq := HY.out _ _ Co w4 hj4 hI4.kept.size hpr
      obtain ⟨fn, tmps, assign, body, hyy, hYY⟩ := hyq.inRound l2 3
      have q0 := m4.c0; have q1 := m4.c1
      have HNE := Lib.hid hne
      have hw4 : X.heap.size ≤ w4.heap.size := h34.size
      have HR4 := Lib.hid hR4
      have HI4 := Lib.hid hI4
      clear hyq hpr hj4 hne hR4 hI4 h34
      gi_wp2
      refine hYY.mono ?_
      clear hyy hYY q0 q1
      rintro e w6 ⟨C2, hr2, ⟨rfl, hJ2⟩ | ⟨rfl, hJ2⟩⟩
      · have n2F : ¬ C2 F := fun e => by rcases hr2.2 _ e with a | a; exact HI.out.nF a; omega
        have n2X : ¬ C2 W.heap.size := fun e => by rcases hr2.2 _ e with a | a; exact HI.out.nX a; omega
        have rF6 : SpAt w6 F r := hr2.1.heap HI.out.nF rF4
        have y6 : SpAt w6 b y := hr2.1.heap hnb y4
        have hyd6 := hr2.1.cell (p := ⟨W.heap.size, 0, none⟩) HI.out.nX hyd4
        have hI6 := HI4.out.round hr2
        have hR6 : Round C X (fun k => C k ∨ C2 k) w6 := HR4.out.trans ⟨hr2.1.mono (fun k _ hk e => hk (HI.out.sub k e)), fun k hk => by
          rcases hk with hk | hk
          · exact .inl hk
          · rcases hr2.2 k hk with a | a
            · exact .inl (HI.out.sub k a)
            · exact .inr a⟩
        have HE := Lib.hid (fun (V1 : World) (h1 : Below w6.heap.size w6 V1) => gi_end HJ.out hWF HI.out hFX (by omega) HR2.out (by rw [HR3.out, HNE.out]) hR6 hJ2 hI6 n2F n2X rF6 hyd6 h1)
        have HRF := Lib.hid rF6
        have e0 := rF6.c0; have e1 := rF6.c1; have e2 := y6.c0; have e3 := y6.c1
        clear hr2 hJ2 hyd6 hI6 hR6 n2F n2X y6 rF6 hyd4 hm
        gi_wp2
        refine ⟨trivial, ?_⟩
        refine (callsIn_wide.2 (HFR.out _)).mono ?_
        rintro e w7 ⟨rfl, h7⟩
        obtain ⟨C', hrr, hgg⟩ := HE.out w7 h7
        have rF7 := HRF.out.later h7
        have g0 := rF7.c0; have g1 := rF7.c1; have g2 := rF7.f0; have g3 := rF7.f1
        have HFIN := Lib.hid (HRN.out C' _ hrr hgg)
        clear hrr hgg rF7 h7 e0 e1 e2 e3
        gi_wp2
        exact HFIN.out _
      · have hR6 : Round C X (fun k => C k ∨ C2 k) w6 := HR4.out.trans ⟨hr2.1.mono (fun k _ hk e => hk (HI.out.sub k e)), fun k hk => by
          rcases hk with hk | hk
          · exact .inl hk
          · rcases hr2.2 k hk with a | a
            · exact .inl (HI.out.sub k a)
            · exact .inr a⟩
        have HFIN := Lib.hid (HRR.out _ _ hR6 ⟨rfl, C2, _, fun k hk => .inr hk, hJ2⟩)
        clear hr2 hJ2 hR6 hyd4 hm
        gi_wp2
        exact HFIN.out _
    · have hne : ne m = [] := by unfold ne; rw [if_pos (by have := (lenI_bd m).1; omega)]
      have HE := Lib.hid (fun (V1 : World) (h1 : Below w4.heap.size w4 V1) => gi_end HJ.out hWF HI.out hFX (by omega) HR2.out (by rw [HR3.out, hne, List.append_nil]) (⟨hR4.1, fun k hk => by
        rcases hk with hk | hk
        · exact .inl hk
        · exact .inl (HI.out.sub k hk)⟩ : Round C X (fun k => C k ∨ Co k) w4) hj4 hI4 HI.out.nF HI.out.nX rF4 hyd4 h1)
      have HRF := Lib.hid rF4
      have q0 := m4.c0; have q1 := m4.c1
      have e0 := rF4.c0; have e1 := rF4.c1; have e2 := y4.c0; have e3 := y4.c1
      clear hj4 hI4 hR4 hne rF4 y4 m4 h34
      gi_wp2
      refine ⟨(fun f hf => by cases hf), ?_⟩
      gi_wp2
      refine ⟨trivial, ?_⟩
      refine (callsIn_wide.2 (HFR.out _)).mono ?_
      rintro e w7 ⟨rfl, h7⟩
      obtain ⟨C', hrr, hgg⟩ := HE.out w7 h7
      have rF7 := HRF.out.later h7
      have g0 := rF7.c0; have g1 := rF7.c1; have g2 := rF7.f0; have g3 := rF7.f1
      have HFIN := Lib.hid (HRN.out C' _ hrr hgg)
      clear hrr hgg rF7 h7 e0 e1 e2 e3 q0 q1
      gi_wp2
      exact HFIN.out _
  case done =>
    rintro D C X hD hCD ⟨Co, hI⟩ hK
    have hnD : ¬ Co D := fun e => hCD (hI.sub _ e)
    have hDX := lt_of_block hK
    have hz5' := hb5.size
    have hWD : W.heap.size ≤ D := by omega
    have hG : gapsC L s = doneL L s ++ ne (restA L s) := by
      have := gaps_cut L [] s
      rw [List.append_nil] at this
      exact this
    have hrF := hI.rest
    have hyd := hI.yd
    have HI := Lib.hid hI
    generalize restA L s = r at *
    have HG := Lib.hid hG
    have HLN := Lib.hid (fun X => len_any r X)
    have e0 := hrF.c0; have e1 := hrF.c1
    clear hI hG HGI HSEQ
    gi_wp2
    refine ⟨trivial, ?_⟩
    refine (callsIn_wide.2 (HLN.out _)).mono ?_
    rintro e w4 ⟨rfl, h4⟩
    have rF4 := hrF.later h4
    have hyd4 := kcell h4 hyd
    have hK4 := (h4.block _ hDX).trans hK
    have hj4 := HJ.out _ _ _ _ HI.out.j HI.out.it.kept.size (Steps.of_below h4 (fun k => k < W.heap.size ∨ Co k))
    have hI4 := HI.out.it.own (Steps.of_below h4 (fun k => k < W.heap.size ∨ Co k))
    by_cases hm : 0 < lenI r
    · have hne : ne r = [r] := by unfold ne; rw [if_neg (by omega)]
      have hgg := HG.out
      rw [hne] at hgg
      have hyq := HY.out (doneL L s) r Co w4 hj4 hI4.kept.size (by rw [hgg]; exact List.prefix_refl _)
      obtain ⟨fn, tmps, assign, body, hyy, hYY⟩ := hyq.at 5
      have q0 := rF4.c0; have q1 := rF4.c1
      have HGG := Lib.hid hgg
      have HI4 := Lib.hid hI4
      have hD4 : D < w4.heap.size := lt_of_block hK4
      clear hyq hgg hne hj4 hI4 h4 rF4 hK e0 e1
      gi_wp2
      refine hYY.mono ?_
      clear hyy hYY q0 q1
      rintro e w6 ⟨C2, hr2, hres⟩
      have hnD2 : ¬ C2 D := fun e => by rcases hr2.2 _ e with a | a; exact hnD a; omega
      have hK6 : w6.heap[D]? = some (.deferred (some [])) := hr2.1.heap hnD hK4
      have hW6 : W.heap.size ≤ w6.heap.size := Nat.le_trans HI4.out.kept.size hr2.1.size
      have HK6 := Lib.hid hK6
      have hst := rng.Steps.putObj (fun k => k < W.heap.size ∨ C2 k) w6 D (.deferred none) (by rintro (e | e); omega; exact hnD2 e)
      clear hr2 hK6 hK4 hnD2
      rcases hres with ⟨rfl, hJ2⟩ | ⟨rfl, hJ2⟩
      · have HF := Lib.hid (HJ.out _ _ _ _ hJ2 hW6 hst)
        rw [← HGG.out] at HF
        clear hJ2 hst
        gi_wp2
        refine ⟨by simp, .inl ⟨_, _, rfl, run_takeDeferred HK6.out, ?_⟩⟩
        exact ⟨_, results_none rfl _ _ _, ⟨_, rfl⟩, C2, .inl (by rw [HLL.out]; exact HF.out)⟩
      · have HF := Lib.hid (HJX.out _ _ _ _ hJ2 hW6 hst)
        clear hJ2 hst
        gi_wp2
        refine ⟨by simp, .inl ⟨_, _, rfl, run_takeDeferred HK6.out, ?_⟩⟩
        exact ⟨_, results_none rfl _ _ _, ⟨_, rfl⟩, C2, .inr ⟨_, HF.out⟩⟩
    · have hne : ne r = [] := by unfold ne; rw [if_pos (by have := (lenI_bd r).1; omega)]
      have hgg := HG.out
      rw [hne, List.append_nil] at hgg
      have HF := Lib.hid (HJ.out _ _ _ _ hj4 hI4.kept.size (rng.Steps.putObj (fun k => k < W.heap.size ∨ Co k) w4 D (.deferred none) (by rintro (e | e); omega; exact hnD e)))
      rw [← hgg] at HF
      have HK4 := Lib.hid hK4
      clear hgg hne hj4 hI4 h4 rF4 hK e0 e1 hK4
      gi_wp2
      refine ⟨by simp, .inl ⟨_, _, rfl, run_takeDeferred HK4.out, ?_⟩⟩
      exact ⟨_, results_none rfl _ _ _, ⟨_, rfl⟩, Co, .inl (by rw [HLL.out]; exact HF.out)⟩
  case stop =>
    rintro D c pre C X hD hCD ⟨rfl, Co, told, h1, hj⟩ hK
    have hX : W.heap.size ≤ X.heap.size := by have := lt_of_block hK; have := hb5.size; omega
    have hfin := HJX.out _ _ _ (X.putObj D (.deferred none)) hj hX (rng.Steps.putObj _ _ _ _ (by rintro (e | e); (have := hb5.size; omega); exact hCD (h1 _ e)))
    have HF := Lib.hid hfin
    clear hj hfin
    gi_wp2
    refine ⟨by simp, .inl ⟨_, _, rfl, run_takeDeferred hK, ?_⟩⟩
    exact ⟨_, results_none rfl _ _ _, ⟨_, rfl⟩, Co, .inr ⟨_, HF.out⟩⟩
set_option maxRecDepth 100000 in
theorem eg_gaps (args : Array Value) (w : World) : (callFunc 51 args).run Try.prog w = .ok (.enter 51 args) w := by kernel_rfl
set_option maxRecDepth 100000 in
theorem gaps_any {w : World} {v : Value} {a : Option Addr} {n cap : Nat} {l : List Sp} (hr : Rv w v a n cap l) (hl : Rn l) (hn : n < 1000000000000) (s : Sp) (A : Nat → Prop) (hA : ∀ k, A k → k < w.heap.size) (har : ∀ b ∈ blk a cap, ¬ A b) :
    Calls Try.prog 23 #[v, spV s] w (SeqS 51 (gapsL l s) A w) := by
  rw [← (gaps_all s hl).2.1]
  obtain ⟨p, rfl⟩ := hr.ptr
  have b1 := bal (w := w) (.cells #[.pointer p] 60)
  have x1 := heap_alloc_new w (.cells #[.pointer p] 60)
  have hz1 : (w.alloc (.cells #[.pointer p] 60)).heap.size = w.heap.size + 1 := by simp
  have b2 := bal (w := w.alloc (.cells #[.pointer p] 60)) (.cells #[.int .i64 s.1, .int .i64 s.2] 36)
  have s2 := sp_new (w.alloc (.cells #[.pointer p] 60)) s
  have x2 := (b2.block _ (lt_of_block x1)).trans x1
  have c2 := cofr x2 0 _ rfl
  have b3 := b1.trans (b2.mono b1.size)
  have HF := Lib.hid (show SeqS 51 (gapsC (partsL l s) s) A w (.returned (.func (.func 51) #[] #[.pointer (some ⟨(w.alloc (.cells #[.pointer p] 60)).heap.size, 0, none⟩), .pointer (some ⟨w.heap.size, 0, none⟩)])) _ from
    ⟨_, rfl, gaps1_seq (A := A) (hr.later b3) hl hn c2 s2 (fun e => by have := hA _ e; omega) (fun e => by have := hA _ e; omega) har, b3⟩)
  rw [hz1] at HF
  clear b1 x1 hz1 b2 s2 x2 c2 b3 hA har hr
  go_enter Try.func23, Try.ntmps23
  go_wp2_with fail
  go_ret
  exact HF.out
end Go.Proofs.Ytekddgmmfgpehaa.rn
/-!   Sets of one's own; known.
-/
namespace Go.Proofs.Ytekddgmmfgpehaa.rn
open Go.RowKit Go.Shelf aid mem rng sp
attribute [local go_sem ↓] Go.wp_at_zero Go.wp_at_succ
set_option linter.unusedVariables false
set_option linter.unusedSimpArgs false

/-- a set at B, whose blocks are S -/
def Own (B : Nat) (l : List Sp) (S : List Nat) (C : World) : Prop := ∃ a n cap, RnAt C B a n cap l ∧ S = B :: blk a cap
set_option maxRecDepth 100000 in
theorem Own.lt {B : Nat} {l : List Sp} {S : List Nat} {C : World} (h : Own B l S C) : ∀ b ∈ S, b < C.heap.size := by
  obtain ⟨a, n, cap, h, rfl⟩ := h
  intro b hb
  rcases List.mem_cons.1 hb with rfl | hb
  · exact lt_of_block h.hdr
  · exact (h.row.lt b hb).1
set_option maxRecDepth 100000 in
theorem Own.head {B : Nat} {l : List Sp} {S : List Nat} {C : World} (h : Own B l S C) : B ∈ S := by
  obtain ⟨a, n, cap, h, rfl⟩ := h
  simp
set_option maxRecDepth 100000 in
theorem Own.later {B : Nat} {l : List Sp} {S : List Nat} {C C' : World} (h : Own B l S C) (hb : Below C.heap.size C C') : Own B l S C' := by
  obtain ⟨a, n, cap, h, rfl⟩ := h
  exact ⟨a, n, cap, h.later hb, rfl⟩
set_option maxRecDepth 100000 in
theorem Own.keep {B : Nat} {l : List Sp} {S T : List Nat} {C C' : World} (h : Own B l S C) (hk : Kept T C C') (hd : ∀ b ∈ S, b ∉ T) : Own B l S C' := by
  obtain ⟨a, n, cap, h, rfl⟩ := h
  exact ⟨a, n, cap, ⟨hk.heap (hd B (by simp)) h.hdr, h.row.keep hk (fun b hb => hd b (by simp [hb]))⟩, rfl⟩
set_option maxRecDepth 100000 in
theorem Own.steps {B : Nat} {l : List Sp} {S : List Nat} {C C' : World} (h : Own B l S C) {K : Nat → Prop} (hs : rng.Steps K C C') (hK : ∀ b ∈ S, K b) : Own B l S C' := by
  obtain ⟨a, n, cap, h, rfl⟩ := h
  refine ⟨a, n, cap, ⟨hs.heap (hK B (by simp)) h.hdr, h.row.len, h.row.le, h.row.most, fun h0 => ?_⟩, rfl⟩
  obtain ⟨g, off, cur, rfl, hg, h1, h2⟩ := h.row.rest h0
  exact ⟨g, off, cur, rfl, hs.heap (hK g (by rw [blk_some _ _ _ h0]; simp)) hg, h1, h2⟩
set_option maxRecDepth 100000 in
theorem Own.rv {B : Nat} {l : List Sp} {S : List Nat} {C : World} (h : Own B l S C) : ∃ a n cap, Rv C (.pointer (some ⟨B, 0, none⟩)) a n cap l ∧ l.length = n ∧ ∀ b ∈ blk a cap, b ∈ S := by
  obtain ⟨a, n, cap, h, rfl⟩ := h
  exact ⟨a, n, cap, h.rv, row_len h.row, fun b hb => by simp [hb]⟩
/-- a new one -/
def RetO (l : List Sp) (w : World) (e : Ending) (w' : World) : Prop := ∃ B S, e = .returned (.pointer (some ⟨B, 0, none⟩)) ∧ Own B l S w' ∧ Below w.heap.size w w' ∧ ∀ b ∈ S, w.heap.size ≤ b
set_option maxRecDepth 100000 in
theorem ret_own {l : List Sp} {w w' : World} {e : Ending} (h : RetR l w e w') : RetO l w e w' := by
  obtain ⟨B, a, n, cap, h1, h2, h3, h4, h5⟩ := h
  exact ⟨B, B :: blk a cap, h1, ⟨a, n, cap, h2, rfl⟩, h3, fun b hb => by rcases List.mem_cons.1 hb with rfl | hb; exact h4; exact h5 b hb⟩
set_option maxRecDepth 100000 in
theorem new_own (w : World) : Calls Try.prog 19 #[] w (RetO [] w) := (new_any w).mono (fun _ _ h => ret_own h)
set_option maxRecDepth 100000 in
theorem clone_own {B : Nat} {l : List Sp} {S : List Nat} {w : World} (h : Own B l S w) (hn : l.length ≤ 4096) : Calls Try.prog 45 #[.pointer (some ⟨B, 0, none⟩)] w (RetO l w) := by
  obtain ⟨a, n, cap, h, rfl⟩ := h
  have := row_len h.row
  exact (clone_any h (by omega)).mono (fun _ _ h => ret_own h)
/-- what a change leaves -/
def ChgO (B : Nat) (S : List Nat) (r : Int × Int × List Sp) (w : World) (e : Ending) (w' : World) : Prop := e = .returned (.tuple #[.int .i64 r.1, .int .i64 r.2.1]) ∧ ∃ S', Own B r.2.2 S' w' ∧ Kept S w w' ∧ ∀ b ∈ S', b ∈ S ∨ w.heap.size ≤ b
set_option maxRecDepth 100000 in
theorem chg_own {B : Nat} {a : Option Addr} {cap : Nat} {r : Int × Int × List Sp} {w w' : World} {e : Ending} (h : ChgPost B a cap r w e w') : ChgO B (B :: blk a cap) r w e w' := by
  obtain ⟨h1, a', n', cap', h2, h3, h4⟩ := h
  refine ⟨h1, B :: blk a' cap', ⟨a', n', cap', h2, rfl⟩, h3, fun b hb => ?_⟩
  rcases List.mem_cons.1 hb with rfl | hb
  · exact .inl (by simp)
  · rcases h4 b hb with q | q
    · exact .inl (by simp [q])
    · exact .inr q
set_option maxRecDepth 100000 in
theorem add_own {B : Nat} {l : List Sp} {S : List Nat} {w : World} (h : Own B l S w) (hl : Rn l) (hn : l.length ≤ 4096) (s : Sp) : Calls Try.prog 24 #[.pointer (some ⟨B, 0, none⟩), spV s] w (ChgO B S (addN l s) w) := by
  obtain ⟨a, n, cap, h, rfl⟩ := h
  have := row_len h.row
  exact (add_any h hl (by omega) s).mono (fun _ _ h => chg_own h)
set_option maxRecDepth 100000 in
theorem bytes_own {B : Nat} {l : List Sp} {S : List Nat} {w : World} (h : Own B l S w) (hl : Rn l) (hn : l.length ≤ 4096) : Calls Try.prog 42 #[.pointer (some ⟨B, 0, none⟩)] w (RetI (bytesL l) w) := by
  obtain ⟨a, n, cap, h, e, _⟩ := h.rv
  exact bytes_any h hl (by omega)
set_option maxRecDepth 100000 in
theorem within_own {B : Nat} {l : List Sp} {S : List Nat} {w : World} (h : Own B l S w) (hl : Rn l) (hn : l.length ≤ 4096) (s : Sp) : Calls Try.prog 56 #[.pointer (some ⟨B, 0, none⟩), spV s] w (RetI (withinL l s) w) := by
  obtain ⟨a, n, cap, h, e, _⟩ := h.rv
  exact within_any h hl (by omega) s
set_option maxRecDepth 100000 in
theorem len_own {B : Nat} {l : List Sp} {S : List Nat} {w : World} (h : Own B l S w) : Calls Try.prog 78 #[.pointer (some ⟨B, 0, none⟩)] w fun e w' => e = .returned (.int .i64 (l.length : Int)) ∧ w = w' := by
  obtain ⟨a, n, cap, h, e, _⟩ := h.rv
  rw [e]
  exact len_any' h
set_option maxRecDepth 100000 in
theorem gap_own {B : Nat} {l : List Sp} {S : List Nat} {w : World} (h : Own B l S w) (hl : Rn l) (hn : l.length ≤ 4096) (o : Int) : Calls Try.prog 27 #[.pointer (some ⟨B, 0, none⟩), .int .i64 o] w (RetI (gapL l o) w) := by
  obtain ⟨a, n, cap, h, e, _⟩ := h.rv
  exact gap_any h hl (by omega) o
set_option maxRecDepth 100000 in
theorem kn1 : addN [] (2, 5) = (3, 0, [(2, 5)]) := by decide
set_option maxRecDepth 100000 in
theorem kn2 : addN [(2, 5)] (7, 9) = (2, 0, [(2, 5), (7, 9)]) := by decide
set_option maxRecDepth 100000 in
theorem kn3 : addN [(2, 5), (7, 9)] (5, 7) = (2, 0, [(2, 9)]) := by decide
set_option maxRecDepth 100000 in
theorem kn4 : gapL [(2, 9)] 4 = 9 := by decide
set_option maxRecDepth 100000 in
theorem kn5 : bytesL [(2, 9)] = 7 := by decide
set_option maxRecDepth 100000 in
theorem kr1 : Rn [(2, 5)] := by have := addN_rn (l := []) (s := (2, 5)) Rn.nil; rw [kn1] at this; exact this
set_option maxRecDepth 100000 in
theorem kr2 : Rn [(2, 5), (7, 9)] := by have := addN_rn (l := [(2, 5)]) (s := (7, 9)) kr1; rw [kn2] at this; exact this
set_option maxRecDepth 100000 in
theorem kr3 : Rn [(2, 9)] := by have := addN_rn (l := [(2, 5), (7, 9)]) (s := (5, 7)) kr2; rw [kn3] at this; exact this
set_option maxRecDepth 100000 in
theorem kept_new {S : List Nat} {b : Nat} {w w1 w2 : World} (h : Below b w w1) (hb : b ≤ w.heap.size) (hk : Kept S w1 w2) (hS : ∀ x ∈ S, b ≤ x) : Below b w w2 := h.trans (hk.below hS (by have := h.size; omega))
end Go.Proofs.Ytekddgmmfgpehaa.rn
/-!   Package heard: one in memory; what is asked; New, Clone.
-/
namespace Go.Proofs.Ytekddgmmfgpehaa.hd
open Go.RowKit aid mem sp rn
attribute [local go_sem ↓] Go.wp_at_zero Go.wp_at_succ
set_option linter.unusedVariables false
set_option linter.unusedSimpArgs false

theorem cofr {w : World} {B : Nat} {cs : Array Value} {T : TypeId} (h : w.heap[B]? = some (.cells cs T (0, 0))) (i : Nat) (v : Value) (hv : cs[i]? = some v) : w.cell? ⟨B, i, none⟩ = some v := (cell_of_row w B i cs T (0, 0) h).trans hv
theorem fofr {w : World} {B : Nat} {cs : Array Value} {T : TypeId} (h : w.heap[B]? = some (.cells cs T (0, 0))) (i : Nat) : w.frozen? ⟨B, i, none⟩ = false := by simp [World.frozen?, h]
/-- where its parts lie -/
structure Hb where
  g : Nat
  rc : Nat
  T : List Value
  H : Nat
  SH : List Nat
  a : Option Addr
  cap : Nat
abbrev cellsH (x : Hd) (m : Hb) : Array Value := #[.int .u32 x.first, .slice m.a (nx x.l).toNat m.cap, .slice (some ⟨m.g, 0, none⟩) x.room m.rc, .pointer (some ⟨m.H, 0, none⟩)]
abbrev parts (m : Hb) : List Nat := m.g :: (m.SH ++ blk m.a m.cap)
structure HdAt (w : World) (B : Nat) (m : Hb) (x : Hd) : Prop where
  hdr : w.heap[B]? = some (.cells (cellsH x m) 63 (0, 0))
  own : rn.Own m.H x.l m.SH w
  ring : ∃ R, RgAt w m.g R m.T ∧ RingOk R x
  text : BRow w m.a (nx x.l).toNat m.cap (txt x)
  ok : Ok x
  rc : x.room ≤ m.rc ∧ m.rc ≤ maxLen
  gt : m.g ∉ blk m.a m.cap
theorem own_typ {H : Nat} {l : List Sp} {S : List Nat} {w : World} (h : rn.Own H l S w) : ∀ b ∈ S, ∃ cs, w.heap[b]? = some (.cells cs 90 (0, 0)) ∨ w.heap[b]? = some (.cells cs 36 (0, 0)) := by
  obtain ⟨a, n, cap, h, rfl⟩ := h
  intro b hb
  rcases List.mem_cons.1 hb with rfl | hb
  · exact ⟨_, .inl h.hdr⟩
  · obtain ⟨_, cs, hc⟩ := h.row.lt b hb
    exact ⟨cs, .inr hc⟩
theorem nts : (63 : TypeId) ≠ 5 ∧ (63 : TypeId) ≠ 90 ∧ (63 : TypeId) ≠ 36 ∧ (5 : TypeId) ≠ 90 ∧ (5 : TypeId) ≠ 36 := by decide
theorem typ_ne {w : World} {b c : Nat} {cs ds : Array Value} {T U : TypeId} (h : w.heap[b]? = some (.cells cs T (0, 0))) (k : w.heap[c]? = some (.cells ds U (0, 0))) (n : T ≠ U) : b ≠ c := by
  rintro rfl
  rw [h] at k
  simp at k
  exact n k.2
section
variable {w w' : World} {B : Nat} {m : Hb} {x : Hd} (h : HdAt w B m x)
include h
/-- blocks of other types lie elsewhere -/
theorem HdAt.typ {b : Nat} {cs : Array Value} {T : TypeId} (hb : w.heap[b]? = some (.cells cs T (0, 0))) (n1 : T ≠ 63) (n2 : T ≠ 5) (n3 : T ≠ 90) (n4 : T ≠ 36) : b ∉ B :: parts m := by
  intro he
  simp only [List.mem_cons, List.mem_append] at he
  obtain ⟨R, hR, _⟩ := h.ring
  rcases he with rfl | rfl | he | he
  · exact typ_ne hb h.hdr n1 rfl
  · exact typ_ne hb hR n2 rfl
  · obtain ⟨ds, q | q⟩ := own_typ h.own b he
    · exact typ_ne hb q n3 rfl
    · exact typ_ne hb q n4 rfl
  · obtain ⟨_, ds, q⟩ := h.text.lt b he
    exact typ_ne hb q n2 rfl
theorem HdAt.nB : B ∉ parts m := by
  intro he
  simp only [List.mem_cons, List.mem_append] at he
  obtain ⟨R, hR, _⟩ := h.ring
  obtain ⟨t1, t2, t3, t4, t5⟩ := nts
  rcases he with rfl | he | he
  · exact typ_ne h.hdr hR t1 rfl
  · obtain ⟨ds, q | q⟩ := own_typ h.own B he
    · exact typ_ne h.hdr q t2 rfl
    · exact typ_ne h.hdr q t3 rfl
  · obtain ⟨_, ds, q⟩ := h.text.lt B he
    exact typ_ne h.hdr q t1 rfl
theorem HdAt.nS : (∀ b ∈ m.SH, b ≠ m.g ∧ b ∉ blk m.a m.cap) := by
  intro b hb
  obtain ⟨R, hR, _⟩ := h.ring
  obtain ⟨t1, t2, t3, t4, t5⟩ := nts
  obtain ⟨ds, q | q⟩ := own_typ h.own b hb
  · refine ⟨fun e => ?_, fun e => ?_⟩
    · exact typ_ne hR q t4 e.symm
    · obtain ⟨_, cs, qq⟩ := h.text.lt b e
      exact typ_ne qq q t4 rfl
  · refine ⟨fun e => ?_, fun e => ?_⟩
    · exact typ_ne hR q t5 e.symm
    · obtain ⟨_, cs, qq⟩ := h.text.lt b e
      exact typ_ne qq q t5 rfl
theorem HdAt.lt : ∀ b ∈ B :: parts m, b < w.heap.size := by
  intro b he
  simp only [List.mem_cons, List.mem_append] at he
  obtain ⟨R, hR, _⟩ := h.ring
  rcases he with rfl | rfl | he | he
  · exact lt_of_block h.hdr
  · exact lt_of_block hR
  · exact h.own.lt b he
  · exact (h.text.lt b he).1
theorem HdAt.keep {T : List Nat} (hk : Kept T w w') (hd : ∀ b ∈ B :: parts m, b ∉ T) : HdAt w' B m x := by
  have h0 := hd B (by simp)
  have h1 := hd m.g (by simp)
  obtain ⟨R, hR, hO⟩ := h.ring
  exact ⟨hk.heap h0 h.hdr, h.own.keep hk (fun b hb => hd b (by simp [hb])), ⟨R, hk.heap h1 hR, hO⟩, h.text.keep hk (fun b hb => hd b (by simp [hb])), h.ok, h.rc, h.gt⟩
theorem HdAt.later (hb : Below w.heap.size w w') : HdAt w' B m x := h.keep (Kept.of_below hb (Nat.le_refl _) []) (fun _ _ => by simp)
theorem HdAt.drewN (n : Nat) : HdAt (w.drewN n) B m x := h.later ⟨rfl, rfl, rfl, Nat.le_refl _, fun _ _ => rfl⟩
theorem HdAt.drew : HdAt w.drew B m x := h.later (Below.refl _ _).drew
abbrev Cs (w : World) (B : Nat) (m : Hb) (x : Hd) : Prop := w.cell? ⟨B, 0, none⟩ = some (.int .u32 x.first) ∧ w.cell? ⟨B, 1, none⟩ = some (.slice m.a (nx x.l).toNat m.cap) ∧ w.cell? ⟨B, 2, none⟩ = some (.slice (some ⟨m.g, 0, none⟩) x.room m.rc) ∧ w.cell? ⟨B, 3, none⟩ = some (.pointer (some ⟨m.H, 0, none⟩))
theorem HdAt.cs : Cs w B m x := ⟨cofr h.hdr 0 _ rfl, cofr h.hdr 1 _ rfl, cofr h.hdr 2 _ rfl, cofr h.hdr 3 _ rfl⟩
theorem HdAt.nx0 : ((nx x.l).toNat : Int) = nx x.l := by have := (nx_spec h.ok.l).1; omega
end
/-- a call that changes nothing but draws -/
def Q (f : FuncId) (args : Array Value) (v : Value) (w : World) : Prop := ∀ n, Calls Try.prog f args (w.drewN n) fun e w'' => e = .returned v ∧ ∃ m, w'' = w.drewN m
theorem Q.mk {f : FuncId} {args : Array Value} {v : Value} {w : World} (h : ∀ n, Calls Try.prog f args (w.drewN n) fun e w'' => e = .returned v ∧ ∃ m, w'' = (w.drewN n).drewN m) : Q f args v w := fun n =>
  (h n).mono fun _ _ ⟨he, m, hm⟩ => ⟨he, n + m, by rw [hm, World.drewN_drewN]⟩
theorem Q.at {f : FuncId} {args : Array Value} {v : Value} {w : World} (h : Q f args v w) : Calls Try.prog f args w fun e w'' => e = .returned v ∧ ∃ m, w'' = w.drewN m := h 0
theorem Q.nth {f : FuncId} {args : Array Value} {v : Value} {w : World} (h : Q f args v w) (n : Nat) : Calls Try.prog f args (w.drewN n) fun e w'' => e = .returned v ∧ ∃ m, w'' = w.drewN m := h n
theorem Q.below {f : FuncId} {args : Array Value} {v : Value} {w : World} (h : Q f args v w) : Calls Try.prog f args w fun e w' => e = .returned v ∧ Below w.heap.size w w' :=
  (h.at).mono fun e w' ⟨h1, n, h2⟩ => ⟨h1, h2 ▸ ⟨rfl, rfl, rfl, Nat.le_refl _, fun _ _ => rfl⟩⟩
/-- a pointer that is none, or one -/
inductive HdO (w : World) : Option Addr → Option (Nat × Hb × Hd) → Prop
  | nil : HdO w none none
  | some {B : Nat} {m : Hb} {x : Hd} (h : HdAt w B m x) : HdO w (some ⟨B, 0, none⟩) (some (B, m, x))
theorem next_q {w : World} {B : Nat} {m : Hb} {x : Hd} (h : HdAt w B m x) : Calls Try.prog 14 #[.pointer (some ⟨B, 0, none⟩)] w fun e w' => e = .returned (.int .i64 (nx x.l)) ∧ w = w' := by
  have c1 := h.cs.2.1
  have hn := h.nx0
  rw [← hn]
  generalize (nx x.l).toNat = n at *
  clear h hn
  go_enter Try.func14, Try.ntmps14
  go_wp2
  go_ret
  exact ⟨rfl, rfl⟩
theorem next_nil (w : World) : Calls Try.prog 14 #[.pointer none] w fun e w' => e = .returned (.int .i64 0) ∧ w = w' := by
  go_enter Try.func14, Try.ntmps14
  go_wp2
  go_ret
  exact ⟨rfl, rfl⟩
theorem all_q {w : World} {B : Nat} {m : Hb} {x : Hd} (h : HdAt w B m x) : Calls Try.prog 41 #[.pointer (some ⟨B, 0, none⟩)] w fun e w' => e = .returned (.pointer (some ⟨m.H, 0, none⟩)) ∧ w = w' := by
  have c1 := h.cs.2.2.2
  clear h
  go_enter Try.func41, Try.ntmps41
  go_wp2
  go_ret
  exact ⟨rfl, rfl⟩
theorem all_nil (w : World) : Calls Try.prog 41 #[.pointer none] w fun e w' => e = .returned (.pointer none) ∧ w = w' := by
  go_enter Try.func41, Try.ntmps41
  go_wp2
  go_ret
  exact ⟨rfl, rfl⟩
theorem hbytes_any {w : World} {B : Nat} {m : Hb} {x : Hd} (h : HdAt w B m x) (hz : x.l.length ≤ 4096) : Calls Try.prog 12 #[.pointer (some ⟨B, 0, none⟩)] w (RetI (bytesL x.l) w) := by
  have HA := Lib.hid (all_q h)
  have HB := Lib.hid (bytes_own h.own h.ok.l hz)
  clear h
  go_enter Try.func12, Try.ntmps12
  go_wp2_with (first
    | (go_at_call 41; (with_reducible refine HA.out.mono ?_); rintro e w1 ⟨rfl, rfl⟩)
    | (go_at_call 42; (with_reducible refine HB.out.mono ?_); rintro e w2 ⟨rfl, hb2⟩))
  go_ret
  exact ⟨rfl, hb2⟩
theorem hbytes_nil (w : World) : Calls Try.prog 12 #[.pointer none] w (RetI 0 w) := by
  have HB := Lib.hid (bytes_any (w := w) (v := .pointer none) (a := none) (n := 0) (cap := 0) (l := []) (.inl ⟨rfl, rfl, rfl, rfl, rfl⟩) Rn.nil (by decide))
  go_enter Try.func12, Try.ntmps12
  go_wp2_with (first
    | (go_at_call 41; (with_reducible refine (all_nil _).mono ?_); rintro e w1 ⟨rfl, rfl⟩)
    | (go_at_call 42; (with_reducible refine HB.out.mono ?_); rintro e w2 ⟨rfl, hb2⟩))
  go_ret
  exact ⟨rfl, hb2⟩
/-- a row of bytes of its own -/
def RetT (l : List Int) (w : World) (e : Ending) (w' : World) : Prop := ∃ a' cap', e = .returned (.slice a' l.length cap') ∧ BRow w' a' l.length cap' l ∧ Below w.heap.size w w' ∧ ∀ b ∈ blk a' cap', w.heap.size ≤ b
theorem brow_len {w : World} {a : Option Addr} {n cap : Nat} {l : List Int} (h : BRow w a n cap l) : l.length = n := by have := h.len; simp only [ints, List.length_map] at this; omega
theorem ints_one (l : List Int) : ∀ u ∈ ints .u8 l, u.oneCell' = true := by
  intro u hu
  obtain ⟨_, _, rfl⟩ := List.mem_map.1 hu
  rfl
set_option maxRecDepth 100000 in
set_option maxHeartbeats 1000000 in
theorem bclone_any {w : World} {a : Option Addr} {n cap : Nat} {l : List Int} (h : BRow w a n cap l) (hn2 : n ≤ 1000000000000) : Calls Try.prog 43 #[.slice a n cap] w (RetT l w) := by
  obtain ⟨i0, hi, hz0, hz1, hz2⟩ := info_split8
  have hle := h.le
  have hll := brow_len h
  by_cases h0 : n = 0
  · obtain rfl : l = [] := List.eq_nil_of_length_eq_zero (by omega)
    subst h0
    have HF0 := Lib.hid (fun (a' : Option Addr) (W : World) (hb : Below w.heap.size w W) => show RetT [] w (.returned (.slice a' 0 0)) W from ⟨a', 0, rfl, SlR.sub0 a', hb, fun b hb => by simp [blk_zero] at hb⟩)
    cases a with
    | none =>
      have he : ∀ w : World, (binOp .eql 24 (.slice none 0 cap) (.slice none 0 0)).run Try.prog w = .ok (.bool true) w := fun _ => rfl
      go_enter Try.func43, Try.ntmps43
      go_wp2
      go_ret
      exact HF0.out _ _ (Below.refl _ _)
    | some x =>
      have he : ∀ w : World, (binOp .eql 24 (.slice (some x) 0 cap) (.slice none 0 0)).run Try.prog w = .ok (.bool false) w := fun _ => rfl
      have HS := Lib.hid (fun W => Src.ofSlice (P := Try.prog) (size := 1) W Try.underlying24 x 0 cap [] (by simp) (by intro j u hu; simp at hu) (by simp))
      go_enter Try.func43, Try.ntmps43
      go_wp2
      go_ret
      exact HF0.out _ _ (bal _)
  · obtain ⟨g, off, rfl, _⟩ := h.cell (by omega)
    have HS := Lib.hid (fun W (hb : Below w.heap.size w W) => (h.later hb).src Try.underlying24 (ints_one l))
    clear h
    have he : ∀ w : World, (binOp .eql 24 (.slice (some ⟨g, off, none⟩) n cap) (.slice none 0 0)).run Try.prog w = .ok (.bool false) w := fun _ => rfl
    go_enter Try.func43, Try.ntmps43
    go_wp2_with (at_builtin; go_must (refine wpList_append_slr _ rfl (.tmp 5) (.tmp 6) 24 24 rfl 5 i0 (.int .u8 0) 1 1 Try.underlying24 hi hz0 hz1 (by decide) hz2 rfl _ 0 0 [] rfl (SlR.sub0 _) _ rfl n (by omega) (ints .u8 l) (HS.out _ ((Below.refl _ _).alloc (Nat.le_refl _) _)) (by unfold maxLen; omega) (by omega) ?_); intro a' cap' w3 hrow hkp hat)
    go_ret
    refine ⟨a', cap', by rw [hll]; simp, by rw [hll]; simpa using hrow, (Below.refl w.heap.size w |>.alloc (Nat.le_refl _) _).trans (hkp.below (by simp [blk_zero]) (by simp)), fun b hb => ?_⟩
    rcases hat b hb with h | h
    · simp [blk_zero] at h
    · simp at h; omega
theorem text_any {w : World} {B : Nat} {m : Hb} {x : Hd} (h : HdAt w B m x) (hz : nx x.l ≤ 1000000000) : Calls Try.prog 16 #[.pointer (some ⟨B, 0, none⟩)] w (RetT (txt x) w) := by
  have c1 := h.cs.2.1
  have HC := Lib.hid (bclone_any h.text (by omega))
  clear h
  unfold RetT at HC ⊢
  go_enter Try.func16, Try.ntmps16
  go_wp2_with (go_at_call 43; (with_reducible refine HC.out.mono ?_); rintro e w1 ⟨a', cap', rfl, h1, h2, h3⟩)
  go_ret
  exact ⟨a', cap', rfl, h1, h2, h3⟩
theorem text_nil (w : World) : Calls Try.prog 16 #[.pointer none] w fun e w' => e = .returned (.slice none 0 0) ∧ w = w' := by
  go_enter Try.func16, Try.ntmps16
  go_wp2
  go_ret
  exact ⟨rfl, rfl⟩
theorem clone_nil (w : World) : Calls Try.prog 13 #[.pointer none] w fun e w' => e = .returned (.pointer none) ∧ w = w' := by
  go_enter Try.func13, Try.ntmps13
  go_wp2
  go_ret
  exact ⟨rfl, rfl⟩
end Go.Proofs.Ytekddgmmfgpehaa.hd
