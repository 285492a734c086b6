/-
  Package runs: Add.
-/
import Derived.Test.YtgjkbejlfclpoaaRunG
import Derived.Test.YtgjkbejlfclpoaaRunV
namespace Go.Proofs.Ytgjkbejlfclpoaa.rn
open Go.RowKit Go.Shelf aid mem rng sp
attribute [local go_sem ↓] Go.wp_at_zero Go.wp_at_succ
set_option linter.unusedVariables false
set_option linter.unusedSimpArgs false

/-- what is left of a set that was changed -/
def SetPost (B : Nat) (a : Option Addr) (cap : Nat) (l' : List Sp) (w w' : World) : Prop := ∃ a' n' cap', RnAt w' B a' n' cap' l' ∧ Kept (B :: blk a cap) w w' ∧ ∀ b ∈ blk a' cap', b ∈ blk a cap ∨ w.heap.size ≤ b
def ChgPost (B : Nat) (a : Option Addr) (cap : Nat) (r : Int × Int × List Sp) (w : World) (e : Ending) (w' : World) : Prop := e = .returned (.tuple #[.int .i64 r.1, .int .i64 r.2.1]) ∧ SetPost B a cap r.2.2 w w'
theorem set_same {w w' : World} {B : Nat} {a : Option Addr} {n cap : Nat} {l : List Sp} (h : RnAt w B a n cap l) (hb : Below w.heap.size w w') : SetPost B a cap l w w' :=
  ⟨a, n, cap, h.later hb, Kept.of_below hb (Nat.le_refl _) _, fun b hb => .inl hb⟩
/-- behind replace, whose row of spans was new -/
theorem set_rep {w w1 w2 : World} {B sg : Nat} {a : Option Addr} {n cap : Nat} {l l' : List Sp} (h : RnAt w B a n cap l) (hb : Below w.heap.size w w1) (hsg : w.heap.size ≤ sg) {e : Ending} (hr : RepPost B sg a cap l' w1 e w2) :
    (4096 < l'.length ∧ e = .returned (.int .i64 4) ∧ SetPost B a cap l w w2) ∨ (l'.length ≤ 4096 ∧ e = .returned (.int .i64 0) ∧ SetPost B a cap l' w w2) := by
  have hB := lt_of_block h.hdr
  rcases hr with ⟨h1, h2, h3⟩ | ⟨h1, h2, a', cap', h4, h5, h6⟩
  · refine .inl ⟨h1, h2, a, n, cap, ⟨h3.heap (by simp; omega) (h.later hb).hdr, (h.later hb).row.keep h3 (fun b hb' e => ?_)⟩, ((Kept.of_below hb (Nat.le_refl _) (B :: blk a cap)).trans h3 (fun x hx => .inr (by simp at hx; omega))), fun b hb => .inl hb⟩
    have := (h.row.lt b hb').1
    simp at e
    omega
  · refine .inr ⟨h1, h2, a', _, cap', h4, (Kept.of_below hb (Nat.le_refl _) (B :: blk a cap)).trans h5 (fun x hx => ?_), fun b hb' => ?_⟩
    · simp at hx
      rcases hx with rfl | rfl | hx
      · exact .inl (by simp)
      · exact .inr hsg
      · exact .inl (by simp [hx])
    · rcases h6 b hb' with q | q
      · exact .inl q
      · exact .inr (by have := hb.size; omega)
/-- what stands while one is changed -/
structure AS (w : World) (B bs : Nat) (a : Option Addr) (n cap : Nat) (l : List Sp) (s : Sp) (C : World) : Prop where
  at_ : RnAt C B a n cap l
  sp : SpAt C bs s
  below : Below w.heap.size w C
  size : bs < C.heap.size
theorem AS.later {w : World} {B bs : Nat} {a : Option Addr} {n cap : Nat} {l : List Sp} {s : Sp} {C C' : World} (h : AS w B bs a n cap l s C) (hb : Below C.heap.size C C') : AS w B bs a n cap l s C' :=
  ⟨h.at_.later hb, h.sp.later hb, h.below.trans (hb.mono h.below.size), Nat.lt_of_lt_of_le h.size hb.size⟩
theorem AS.cells {w : World} {B bs : Nat} {a : Option Addr} {n cap : Nat} {l : List Sp} {s : Sp} {C : World} (h : AS w B bs a n cap l s C) : C.cell? ⟨B, 0, none⟩ = some (.slice a n cap) ∧ C.cell? ⟨bs, 0, none⟩ = some (.int .i64 s.1) ∧ C.cell? ⟨bs, 1, none⟩ = some (.int .i64 s.2) := ⟨cofr h.at_.hdr 0 _ rfl, h.sp.c0, h.sp.c1⟩
theorem ret2 {a b c d : Int} (h1 : a = c) (h2 : b = d) : Ending.returned (.tuple #[.int .i64 a, .int .i64 b]) = .returned (.tuple #[.int .i64 c, .int .i64 d]) := by rw [h1, h2]
/-- list[f:t:t] -/
theorem slice3_any {w : World} {a : Option Addr} {n cap : Nat} {l : List Sp} (h : SlR w 24 2 a n cap (spCells l)) (f t : Nat) (hft : f ≤ t) (htn : t ≤ n) :
    ∃ a', (∀ wx, (Instr.slice 28 (.slice a n cap) (some (.int .i64 (f : Int))) (some (.int .i64 (t : Int))) (some (.int .i64 (t : Int)))).run Try.prog wx = .ok (.slice a' (t - f) (t - f)) wx) ∧
      ∀ C, SlR C 24 2 a n cap (spCells l) → SlR C 24 2 a' (t - f) (t - f) (spCells ((l.take t).drop f)) := by
  obtain ⟨i0, hi, hz0, hz1, hz2⟩ := info_split info_span
  have hle := h.le
  have hlen := row_len h
  have h1 : t ≤ cap := by omega
  refine ⟨if t = f then a else a.map (·.add (f * 2)), fun wx => ?_, fun C hC => ?_⟩
  · have e1 : (asIntOf (.int .i64 (t : Int))).run Try.prog wx = .ok (.i64, (t : Int)) wx := rfl
    have e2 : (asIntOf (.int .i64 (f : Int))).run Try.prog wx = .ok (.i64, (f : Int)) wx := rfl
    simp [Instr.slice, Instr.sliceBounds, Instr.sliceBound, run_underlying Try.underlying28, sizeOf, typeInfo, hi, hz1, e1, e2, h1, hft]
  · by_cases c : t = f
    · subst c
      have e : spCells ((l.take t).drop t) = [] := by
        rw [List.drop_eq_nil_of_le (by rw [List.length_take]; omega)]; rfl
      rw [e, Nat.sub_self, if_pos rfl]
      exact SlR.sub0 a
    · obtain ⟨g, off, rfl, _⟩ := row_cells hC (by omega)
      have := hC.sub f t t hft htn (Nat.le_refl _) (by omega) (by omega)
      rw [spTake, spDrop] at this
      rw [if_neg c, Option.map_some, addr_add]
      exact this
theorem span_src' {X : World} {p : Nat} {s : Sp} (h : SpAt X p s) : Src Try.prog 2 28 (.slice (some ⟨p, 0, none⟩) 1 1) 1 (spCells [s]) X :=
  (SlP.slr (P := []) (R := []) ⟨h, rfl, rfl, by simp, by decide, by simp [spCells]⟩ : SlR X 24 2 (some ⟨p, 0, none⟩) 1 1 (spCells [s])).src Try.underlying28 (spCells_one [s])
theorem as_put {w : World} {B bs p : Nat} {a : Option Addr} {n cap : Nat} {l : List Sp} {s : Sp} {C C' : World} (h : AS w B bs a n cap l s C) (hp : w.heap.size ≤ p) (hn : bs ≠ p) (hk : Kept [p] C C') (hB : B < w.heap.size) (hbl : ∀ b ∈ blk a cap, b < w.heap.size) : AS w B bs a n cap l s C' :=
  ⟨⟨hk.heap (by simp; omega) h.at_.hdr, h.at_.row.keep hk (fun b hb e => by have := hbl b hb; simp at e; omega)⟩, hk.heap (by simpa using hn) h.sp, h.below.trans (hk.below (B := w.heap.size) (by simpa using hp) h.below.size), Nat.lt_of_lt_of_le h.size hk.size⟩
set_option maxHeartbeats 2000000 in
theorem add_any {w : World} {B : Nat} {a : Option Addr} {n cap : Nat} {l : List Sp} (h : RnAt w B a n cap l) (hl : Rn l) (hn : n ≤ 4096) (s : Sp) :
    Calls Try.prog 25 #[.pointer (some ⟨B, 0, none⟩), spV s] w (ChgPost B a cap (addN l s) w) := by
  obtain ⟨i0, hi, hz0, hz1, hz2⟩ := info_split info_span
  have hlen := row_len h.row
  have hB := lt_of_block h.hdr
  have hbl := fun b hb => (h.row.lt b hb).1
  have b1 := bal (w := w) (.cells #[.int .i64 s.1, .int .i64 s.2] 24)
  have s1 := sp_new w s
  have S1 : AS w B w.heap.size a n cap l s (w.alloc (.cells #[.int .i64 s.1, .int .i64 s.2] 24)) := ⟨h.later b1, s1, b1, s1.lt⟩
  have HH := Lib.hid h
  have HCK := Lib.hid (fun X => check_any X B s)
  obtain ⟨W1, hW1⟩ : ∃ W1, W1 = w.alloc (.cells #[.int .i64 s.1, .int .i64 s.2] 24) := ⟨_, rfl⟩
  have HW1 := Lib.hid hW1
  rw [← hW1] at S1
  clear hW1 b1 s1 h
  have c0 : (w.alloc (.cells #[.int .i64 s.1, .int .i64 s.2] 24)).cell? ⟨w.heap.size, 0, none⟩ = some (.int .i64 s.1) := (sp_new w s).c0
  have c1 : (w.alloc (.cells #[.int .i64 s.1, .int .i64 s.2] 24)).cell? ⟨w.heap.size, 1, none⟩ = some (.int .i64 s.2) := (sp_new w s).c1
  have HAN := Lib.hid (show addN l s = if mayB s.1 s.2 = true then (if lenI s - withinL l s = 0 then (0, 0, l) else if 4096 < (refWi l s).length then (0, 4, l) else (lenI s - withinL l s, 0, refWi l s)) else (0, 3, l) from rfl)
  generalize addN l s = R at *
  go_enter Try.func25, Try.ntmps25
  go_wp2_with fail
  rw [← HW1.out]
  clear c0 c1 HW1
  generalize hbs : w.heap.size = bs at *
  have HBSZ := Lib.hid hbs
  clear hbs
  cases hm : mayB s.1 s.2
  · rw [hm] at HCK HAN
    have HAN' := Lib.hid (show R = (0, 3, l) from by rw [HAN.out, if_neg (by simp)])
    refine (HCK.out _).mono ?_
    rintro e w2 ⟨rfl, h2⟩
    have S2 := S1.later h2
    have HF := Lib.hid (show ChgPost B a cap R w (.returned (.tuple #[.int .i64 0, .int .i64 3])) w2 from by rw [HAN'.out]; exact ⟨rfl, set_same HH.out S2.below⟩)
    clear S2 S1 HAN HAN' h2 HCK hm
    go_wp2_with fail
    go_ret2
    exact HF.out
  rw [hm, if_pos rfl] at HAN
  rw [hm] at HCK
  have hok : Ok s := mayB_iff.1 hm
  refine (HCK.out _).mono ?_
  rintro e w2 ⟨rfl, h2⟩
  have S2 := S1.later h2
  have hly := lenI_bd s
  have hwb := within_le s hl.ok
  have hbb := hl.bytes
  have HLN := Lib.hid (fun X => len_any s X)
  have HWN := Lib.hid (fun X (S : AS w B bs a n cap l s X) => within_any S.at_.rv hl (by omega) s)
  have HADD := Lib.hid (fun hk : ROk s => add_at hl hk (lo1_hi1 hl hk) (lo1_spec s hl).2.1 (lo1_spec s hl).2.2 (hi1_spec s hl).2.1 (hi1_spec s hl).2.2)
  have HROK := Lib.hid (fun (hc : ¬ lenI s - withinL l s = 0) => rok_of hok (fun h0 => hc (by
    have hw : withinL l s = 0 := by rw [← (parts_spec s hl).2.2.1, parts_none hl.ok h0]; rfl
    rw [h0, hw]; rfl)))
  have HFT := Lib.hid (fun hk : ROk s => And.intro (lo1_hi1 hl hk) (hi1_spec s hl).1)
  have HPL1 := Lib.hid (fun X (S : AS w B bs a n cap l s X) => place_any (gf := 47) (cb := #[.pointer (some ⟨bs, 0, none⟩)]) (fun x => decide (s.1 ≤ x.2)) S.at_.rv enters2 (by omega) (fun W2 hW2 x _ => add1_any (S.sp.later hW2) x) (by rw [← hlen]; exact hl.mono2' s.1))
  have HPL2 := Lib.hid (fun X (S : AS w B bs a n cap l s X) => place_any (gf := 48) (cb := #[.pointer (some ⟨bs, 0, none⟩)]) (fun x => decide (s.2 < x.1)) S.at_.rv enters3 (by omega) (fun W2 hW2 x _ => add2_any (S.sp.later hW2) x) (by rw [← hlen]; exact hl.mono1 s.2))
  rw [show plc (fun x => decide (s.1 ≤ x.2)) l = lo1 l s from rfl] at HPL1
  rw [show plc (fun x => decide (s.2 < x.1)) l = hi1 l s from rfl] at HPL2
  clear S1 h2 hm HCK hok
  obtain ⟨cm, hcm⟩ : ∃ cm, lenI s - withinL l s = cm := ⟨_, rfl⟩
  have HCM := Lib.hid hcm
  rw [hcm] at HAN HROK
  have hw1 : IntKind.i64.wrap (lenI s - withinL l s) = cm := by rw [← hcm]; exact IntWalk.i64_in _ (by omega)
  clear hcm
  go_wp2_with fail
  refine wp_region_noPanic ?_
  refine wp_region_held_drew (S := (fun w' => w'.cell? ⟨bs, 0, none⟩ = some (.int .i64 s.1) ∧ w'.cell? ⟨bs, 1, none⟩ = some (.int .i64 s.2))) (by kernel_rfl) ?_ (fun hHeld => ?_)
  · ((try dsimp only); exact ⟨S2.sp.c0, S2.sp.c1⟩)
  refine wpAnyH_take (i := 0) (oi := _) (v := ?_) rfl (by kernel_rfl) (by kernel_rfl) (by kernel_rfl) (fun _ _ _ h => h) (Or.inl ⟨by rfl, ?_⟩) (by assumption) ?_
  rotate_left
  · (first | (intro v hSw; (try dsimp only at hSw); go_simp; done) | (intro v hSw; (try dsimp only at hSw); go_simp; with_reducible rfl))
  (try simp only [List.getElem_toArray, List.getElem_cons_succ, List.getElem_cons_zero, Act.put, List.setIfInBounds_toArray, List.set_cons_zero, List.set_cons_succ])
  refine wpAnyH_take (i := 2) (oi := _) (v := ?_) rfl (by kernel_rfl) (by kernel_rfl) (by kernel_rfl) (fun _ _ _ h => h) (Or.inl ⟨by rfl, ?_⟩) (by assumption) ?_
  rotate_left
  · (first | (intro v hSw; (try dsimp only at hSw); go_simp; done) | (intro v hSw; (try dsimp only at hSw); go_simp; with_reducible rfl))
  (try simp only [List.getElem_toArray, List.getElem_cons_succ, List.getElem_cons_zero, Act.put, List.setIfInBounds_toArray, List.set_cons_zero, List.set_cons_succ])
  refine wpAnyH_take (i := 3) (oi := _) (v := ?_) rfl (by kernel_rfl) (by kernel_rfl) (by kernel_rfl) (fun _ _ _ h => h) (Or.inl ⟨by rfl, ?_⟩) (by assumption) ?_
  rotate_left
  · (first | (intro v hSw; (try dsimp only at hSw); go_simp; done) | (intro v hSw; (try dsimp only at hSw); go_simp; with_reducible rfl))
  (try simp only [List.getElem_toArray, List.getElem_cons_succ, List.getElem_cons_zero, Act.put, List.setIfInBounds_toArray, List.set_cons_zero, List.set_cons_succ])
  refine wpAnyH_ready (rs := [1]) (by kernel_rfl) (by simp) ?_
  refine AllReadyH.cons (o := _) rfl (fun K hK => ?_) AllReadyH.nil
  go_simp
  (with_reducible refine (HLN.out _).mono ?_)
  rintro e w3 ⟨rfl, h3⟩
  have S3 := S2.later (undrew h3)
  refine hK.out _ _ ?_ (fun hHeld => ?_)
  · ((try dsimp only); exact ⟨S3.sp.c0, S3.sp.c1⟩)
  clear hK K
  (try simp only [List.getElem_toArray, List.getElem_cons_succ, List.getElem_cons_zero, Act.put, List.setIfInBounds_toArray, List.set_cons_zero, List.set_cons_succ])
  refine wpAnyH_ready (rs := [4]) (by kernel_rfl) (by simp) ?_
  refine AllReadyH.cons (o := _) rfl (fun K hK => ?_) AllReadyH.nil
  go_simp
  (with_reducible refine (HWN.out _ S3).mono ?_)
  rintro e w4 ⟨rfl, h4⟩
  have S4 := S3.later h4
  refine hK.out _ _ ?_ (fun hHeld => ?_)
  · ((try dsimp only); exact ⟨S4.sp.c0, S4.sp.c1⟩)
  clear hK K
  (try simp only [List.getElem_toArray, List.getElem_cons_succ, List.getElem_cons_zero, Act.put, List.setIfInBounds_toArray, List.set_cons_zero, List.set_cons_succ])
  refine wpAnyH_take (i := 5) (oi := _) (v := ?_) rfl (by kernel_rfl) (by kernel_rfl) (by kernel_rfl) (fun _ _ _ h => h) (Or.inl ⟨by rfl, ?_⟩) (by assumption) ?_
  rotate_left
  · (first | (intro v hSw; (try dsimp only at hSw); go_simp; done) | (intro v hSw; (try dsimp only at hSw); go_simp; with_reducible rfl))
  (try simp only [List.getElem_toArray, List.getElem_cons_succ, List.getElem_cons_zero, Act.put, List.setIfInBounds_toArray, List.set_cons_zero, List.set_cons_succ])
  refine wpAnyH_take (i := 6) (oi := _) (v := ?_) rfl (by kernel_rfl) (by kernel_rfl) (by kernel_rfl) (fun _ _ _ h => h) (Or.inl ⟨by rfl, ?_⟩) (by assumption) ?_
  rotate_left
  · (first | (intro v hSw; (try dsimp only at hSw); go_simp; done) | (intro v hSw; (try dsimp only at hSw); go_simp; with_reducible rfl))
  (try simp only [List.getElem_toArray, List.getElem_cons_succ, List.getElem_cons_zero, Act.put, List.setIfInBounds_toArray, List.set_cons_zero, List.set_cons_succ])
  refine wpAnyH_done (by kernel_rfl) ?_ _
  refine NoPanic.normal ?_
  have HS4 := Lib.hid S4
  clear hHeld S4 S3 S2 h4 h3 hw1 HLN HWN hly hwb hbb HCM
  have HBB := Lib.hid (And.intro hB hbl)
  clear hB hbl
  by_cases hc : cm = 0
  · subst hc
    have HAN' := Lib.hid (show R = (0, 0, l) from by rw [HAN.out, if_pos rfl])
    have HF := Lib.hid (show ChgPost B a cap R w (.returned (.tuple #[.int .i64 0, .int .i64 0])) w4 from by rw [HAN'.out]; exact ⟨rfl, set_same HH.out HS4.out.below⟩)
    clear HAN HAN' HADD HROK HFT HPL1 HPL2 HS4
    go_wp2_with fail
    go_ret2
    exact HF.out
  have hk := HROK.out hc
  rw [if_neg hc] at HAN
  obtain ⟨hft, htn⟩ := HFT.out hk
  have hADD := HADD.out hk
  rw [hlen] at htn
  generalize lo1 l s = f at *
  generalize hi1 l s = t at *
  rw [← hADD] at HAN
  have HAD := Lib.hid (show addAt l s f t = l.take f ++ [hullP ((l.take t).drop f ++ [s])] ++ l.drop t from by unfold addAt; simp)
  have HONE0 := Lib.hid (show lenI (hullP ((l.take t).drop f ++ [s])) ≠ 0 from (hull_ne (fun x hx => by
    rcases List.mem_append.1 hx with h | h
    · exact hl.ok x (List.mem_of_mem_take (List.mem_of_mem_drop h))
    · simp at h; subst h; exact hk) (by simp)).1)
  clear HADD HROK HFT hADD hk hl
  obtain ⟨a7, hsl, hrow7⟩ := slice3_any HH.out.row f t hft htn
  have HM := Lib.hid (fun C (S : AS w B bs a n cap l s C) => hrow7 C S.at_.row)
  clear hrow7
  generalize addAt l s f t = L' at *
  obtain ⟨one, hone⟩ : ∃ one, hullP ((l.take t).drop f ++ [s]) = one := ⟨_, rfl⟩
  rw [hone] at HAD HONE0
  have HONE := Lib.hid hone
  have HLEN := Lib.hid hlen
  clear hone hlen
  have hcb : ¬ cm = 0 := hc
  go_wp2_with fail
  refine (HPL1.out _ HS4.out).mono ?_
  rintro e w5 ⟨rfl, h5⟩
  have HS5 := Lib.hid (HS4.out.later h5)
  clear h5
  go_wp2_with fail
  refine (HPL2.out _ HS5.out).mono ?_
  rintro e w6 ⟨rfl, h6⟩
  have S6 := HS5.out.later h6
  have S0 := S6.later ((Below.refl w6.heap.size w6).drew)
  have HC0 := Lib.hid S0.cells
  clear h6 HS4 HS5 HPL1 HPL2 S6 hc
  go_wp2_with fail
  refine wp_region_noPanic ?_
  refine wp_region_held_drew (S := fun w' => w'.cell? ⟨B, 0, none⟩ = some (.slice a n cap) ∧ w'.cell? ⟨bs, 0, none⟩ = some (.int .i64 s.1) ∧ w'.cell? ⟨bs, 1, none⟩ = some (.int .i64 s.2)) (by kernel_rfl) ?_ (fun hHeld => ?_)
  · exact HC0.out
  generalize w6.drew = C0 at *
  clear HC0
  refine wpAnyH_take (i := 0) (oi := _) (v := ?_) rfl (by kernel_rfl) (by kernel_rfl) (by kernel_rfl) (fun _ _ _ h => h) (Or.inl ⟨by rfl, ?_⟩) (by assumption) ?_
  rotate_left
  · (first | (intro v hSw; (try dsimp only at hSw); go_simp; done) | (intro v hSw; (try dsimp only at hSw); go_simp; with_reducible rfl))
  (try simp only [List.getElem_toArray, List.getElem_cons_succ, List.getElem_cons_zero, Act.put, List.setIfInBounds_toArray, List.set_cons_zero, List.set_cons_succ])
  refine wpAnyH_take (i := 1) (oi := _) (v := ?_) rfl (by kernel_rfl) (by kernel_rfl) (by kernel_rfl) (fun _ _ _ h => h) (Or.inl ⟨by rfl, ?_⟩) (by assumption) ?_
  rotate_left
  · (first | (intro v hSw; (try dsimp only at hSw); go_simp; done) | (intro v hSw; (try dsimp only at hSw); go_simp; with_reducible rfl))
  (try simp only [List.getElem_toArray, List.getElem_cons_succ, List.getElem_cons_zero, Act.put, List.setIfInBounds_toArray, List.set_cons_zero, List.set_cons_succ])
  refine wpAnyH_take (i := 2) (oi := _) (v := ?_) rfl (by kernel_rfl) (by kernel_rfl) (by kernel_rfl) (fun _ _ _ h => h) (Or.inl ⟨by rfl, ?_⟩) (by assumption) ?_
  rotate_left
  · (first | (intro v hSw; (try dsimp only at hSw); go_simp; done) | (intro v hSw; (try dsimp only at hSw); go_simp; with_reducible rfl))
  (try simp only [List.getElem_toArray, List.getElem_cons_succ, List.getElem_cons_zero, Act.put, List.setIfInBounds_toArray, List.set_cons_zero, List.set_cons_succ])
  refine wpAnyH_take (i := 3) (oi := _) (v := ?_) rfl (by kernel_rfl) (by kernel_rfl) (by kernel_rfl) (fun _ _ _ h => h) (Or.inl ⟨by rfl, ?_⟩) (by assumption) ?_
  rotate_left
  · (first | (intro v hSw; (try dsimp only at hSw); go_simp; done) | (intro v hSw; (try dsimp only at hSw); go_simp; with_reducible rfl))
  (try simp only [List.getElem_toArray, List.getElem_cons_succ, List.getElem_cons_zero, Act.put, List.setIfInBounds_toArray, List.set_cons_zero, List.set_cons_succ])
  refine wpAnyH_take (i := 4) (oi := _) (v := ?_) rfl (by kernel_rfl) (by kernel_rfl) (by kernel_rfl) (fun _ _ _ h => h) (Or.inl ⟨by rfl, ?_⟩) (by assumption) ?_
  rotate_left
  · (first | (intro v hSw; (try dsimp only at hSw); go_simp; done) | (intro v hSw; (try dsimp only at hSw); go_simp; with_reducible rfl))
  (try simp only [List.getElem_toArray, List.getElem_cons_succ, List.getElem_cons_zero, Act.put, List.setIfInBounds_toArray, List.set_cons_zero, List.set_cons_succ])
  refine wpAnyH_take (i := 5) (oi := _) (v := ?_) rfl (by kernel_rfl) (by kernel_rfl) (by kernel_rfl) (fun _ _ _ h => h) (Or.inl ⟨by rfl, ?_⟩) (by assumption) ?_
  rotate_left
  · (first | (intro v hSw; (try dsimp only at hSw); go_simp; done) | (intro v hSw; (try dsimp only at hSw); go_simp; with_reducible rfl))
  (try simp only [List.getElem_toArray, List.getElem_cons_succ, List.getElem_cons_zero, Act.put, List.setIfInBounds_toArray, List.set_cons_zero, List.set_cons_succ])
  refine wpAnyH_take (i := 6) (oi := _) (v := ?_) rfl (by kernel_rfl) (by kernel_rfl) (by kernel_rfl) (fun _ _ _ h => h) (Or.inl ⟨by rfl, ?_⟩) (by assumption) ?_
  rotate_left
  · (first | (intro v hSw; (try dsimp only at hSw); go_simp; done) | (intro v hSw; (try dsimp only at hSw); go_simp; with_reducible rfl))
  (try simp only [List.getElem_toArray, List.getElem_cons_succ, List.getElem_cons_zero, Act.put, List.setIfInBounds_toArray, List.set_cons_zero, List.set_cons_succ])
  refine wpAnyH_take (i := 7) (oi := _) (v := ?_) rfl (by kernel_rfl) (by kernel_rfl) (by kernel_rfl) (fun _ _ _ h => h) (Or.inl ⟨by rfl, ?_⟩) (by assumption) ?_
  rotate_left
  · (first | (intro v hSw; (try dsimp only at hSw); go_simp; done) | (intro v hSw; (try dsimp only at hSw); go_simp; with_reducible rfl))
  (try simp only [List.getElem_toArray, List.getElem_cons_succ, List.getElem_cons_zero, Act.put, List.setIfInBounds_toArray, List.set_cons_zero, List.set_cons_succ])
  refine wpAnyH_take (i := 8) (oi := _) (v := ?_) rfl (by kernel_rfl) (by kernel_rfl) (by kernel_rfl) (fun _ _ _ h => h) (Or.inl ⟨by rfl, ?_⟩) (by assumption) ?_
  rotate_left
  · (first | (intro v hSw; (try dsimp only at hSw); go_simp; done) | (intro v hSw; (try dsimp only at hSw); go_simp; with_reducible rfl))
  (try simp only [List.getElem_toArray, List.getElem_cons_succ, List.getElem_cons_zero, Act.put, List.setIfInBounds_toArray, List.set_cons_zero, List.set_cons_succ])
  refine wpAnyH_ready (rs := [9, 12]) (by kernel_rfl) (by simp) ?_
  refine AllReadyH.cons (o := _) rfl (fun K hK => ?_) ?_
  · have bb := bal (w := C0) (.cells #[.int .i64 s.1, .int .i64 s.2] 24)
    have S1 := S0.later bb
    have x9 := sp_new C0 s
    go_simp
    refine hK.out _ _ ?_ (fun hHeld => ?_)
    · ((try dsimp only); exact S1.cells)
    clear hK K bb S0
    (try simp only [List.getElem_toArray, List.getElem_cons_succ, List.getElem_cons_zero, Act.put, List.setIfInBounds_toArray, List.set_cons_zero, List.set_cons_succ])
    generalize C0.alloc (.cells #[.int .i64 s.1, .int .i64 s.2] 24) = C1 at *
    generalize hp9 : C0.heap.size = p9 at *
    clear hp9
    refine wpAnyH_ready (rs := [10, 12]) (by kernel_rfl) (by simp) ?_
    refine AllReadyH.cons (o := _) rfl (fun K hK => ?_) ?_
    · have rm := HM.out C1 S1
      refine step_append_full C1 rfl (.tmp 39) (.tmp 41) 28 28 rfl 24 i0 (.agg #[.int .i64 0, .int .i64 0]) 2 16 Try.underlying28 hi hz0 hz1 (by decide) hz2 rfl a7 (t - f) (spCells ((l.take t).drop f)) rfl rm (.slice (some ⟨p9, 0, none⟩) 1 1) rfl 1 (by decide) (spCells [s]) (span_src' x9) (by unfold maxLen; omega) (by omega) ?_
      intro a10 c10 C2 r10 bb b10
      rw [← spCells_append] at r10
      have S2 := S1.later bb
      refine hK.out _ _ ?_ (fun hHeld => ?_)
      · ((try dsimp only); exact S2.cells)
      clear hK K bb S1 rm b10
      (try simp only [List.getElem_toArray, List.getElem_cons_succ, List.getElem_cons_zero, Act.put, List.setIfInBounds_toArray, List.set_cons_zero, List.set_cons_succ])
      refine wpAnyH_ready (rs := [11, 12]) (by kernel_rfl) (by simp) ?_
      refine AllReadyH.cons (o := _) rfl (fun K hK => ?_) ?_
      · go_simp
        (with_reducible refine (hull_any ((l.take t).drop f ++ [s]) _ _ _ C2 (sls_of r10)).mono ?_)
        rw [HONE.out]
        rintro e C3 ⟨rfl, bb⟩
        have S3 := S2.later bb
        refine hK.out _ _ ?_ (fun hHeld => ?_)
        · ((try dsimp only); exact S3.cells)
        clear hK K bb S2 r10
        (try simp only [List.getElem_toArray, List.getElem_cons_succ, List.getElem_cons_zero, Act.put, List.setIfInBounds_toArray, List.set_cons_zero, List.set_cons_succ])
        refine wpAnyH_ready (rs := [12]) (by kernel_rfl) (by simp) ?_
        refine AllReadyH.cons (o := _) rfl (fun K hK => ?_) AllReadyH.nil
        have bb := bal (w := C3) (.cells #[.int .i64 0, .int .i64 0] 24)
        have S4 := S3.later bb
        have x12 : SpAt (C3.alloc (.cells #[.int .i64 0, .int .i64 0] 24)) C3.heap.size (0, 0) := sp_new C3 (0, 0)
        have g12 : w.heap.size ≤ C3.heap.size := S3.below.size
        have n12 : bs ≠ C3.heap.size := by have := S3.size; omega
        go_simp
        refine hK.out _ _ ?_ (fun hHeld => ?_)
        · ((try dsimp only); exact S4.cells)
        clear hK K bb S3
        (try simp only [List.getElem_toArray, List.getElem_cons_succ, List.getElem_cons_zero, Act.put, List.setIfInBounds_toArray, List.set_cons_zero, List.set_cons_succ])
        generalize C3.alloc (.cells #[.int .i64 0, .int .i64 0] 24) = C4 at *
        generalize hp12 : C3.heap.size = p12 at *
        clear hp12
        refine wpAnyH_ready (rs := [13]) (by kernel_rfl) (by simp) ?_
        refine AllReadyH.cons (o := _) rfl (fun K hK => ?_) AllReadyH.nil
        have z0 := x12.c0
        have z1 := x12.c1
        have z2 := x12.f0
        have z3 := x12.f1
        have xx := x12.put one.1 one.2
        have kk : Kept [p12] C4 ((C4.setCell ⟨p12, 0, none⟩ (.int .i64 one.1)).setCell ⟨p12, 1, none⟩ (.int .i64 one.2)) := kput C4 p12 _ _
        have S9 : AS w B bs a n cap l s ((C4.setCell ⟨p12, 0, none⟩ (.int .i64 one.1)).setCell ⟨p12, 1, none⟩ (.int .i64 one.2)) := as_put S4 g12 n12 kk (by rw [HBSZ.out]; exact HBB.out.1) (by rw [HBSZ.out]; exact HBB.out.2)
        go_simp
        refine hK.out _ _ ?_ (fun hHeld => ?_)
        · ((try dsimp only); exact S9.cells)
        clear hK K
        (try simp only [List.getElem_toArray, List.getElem_cons_succ, List.getElem_cons_zero, Act.put, List.setIfInBounds_toArray, List.set_cons_zero, List.set_cons_succ])
        refine wpAnyH_done (by kernel_rfl) ?_ _
        refine NoPanic.normal ?_
        have HS9 := Lib.hid (And.intro S9 xx)
        clear z0 z1 z2 z3 kk S9 xx hHeld x12 S4
        generalize (C4.setCell ⟨p12, 0, none⟩ (.int .i64 one.1)).setCell ⟨p12, 1, none⟩ (.int .i64 one.2) = W9 at *
        obtain ⟨S9, x9'⟩ := HS9.out
        have e0 := x9'.c0; have e1 := x9'.c1
        have bR := bal (w := W9) (.cells #[.int .i64 one.1, .int .i64 one.2] 24)
        have xR := sp_new W9 one
        have SR := S9.later bR
        have hgR := S9.below.size
        have HR := Lib.hid (replace_any (B := B) (f := f) (t := t) (sg := W9.heap.size) (k := 1) (ys := [one]) SR.at_ hft htn hn (by simp) (by have := HBB.out.1; have := HBSZ.out; omega) (fun hh => by have := HBB.out.2 _ hh; have := HBSZ.out; omega) (by simp) xR.lt (del_one one xR HONE0.out))
        rw [← HAD.out] at HR
        have HSR := Lib.hid SR
        clear S9 x9' HS9 bR xR SR
        go_wp2_with fail
        refine HR.out.mono ?_
        rintro e w12 hrep
        have hset := set_rep HH.out HSR.out.below hgR hrep
        clear hrep e0 e1
        rcases hset with ⟨h1, rfl, h2⟩ | ⟨h1, rfl, h2⟩
        · have hR : R = (0, 4, l) := by rw [HAN.out, if_pos h1]
          have HF := Lib.hid (show ChgPost B a cap R w (.returned (.tuple #[.int .i64 0, .int .i64 4])) w12 from by rw [hR]; exact ⟨rfl, h2⟩)
          clear h1 h2 hR
          go_wp2_with fail
          go_ret2
          exact HF.out
        · have hR : R = (cm, 0, L') := by rw [HAN.out, if_neg (by omega)]
          have HF := Lib.hid (show ChgPost B a cap R w (.returned (.tuple #[.int .i64 cm, .int .i64 0])) w12 from by rw [hR]; exact ⟨rfl, h2⟩)
          clear h1 h2 hR
          go_wp2_with fail
          go_ret2
          exact HF.out
      refine AllReadyH.cons (o := _) rfl (fun K hK => ?_) AllReadyH.nil
      have bb := bal (w := C2) (.cells #[.int .i64 0, .int .i64 0] 24)
      have S3 := S2.later bb
      have x12 : SpAt (C2.alloc (.cells #[.int .i64 0, .int .i64 0] 24)) C2.heap.size (0, 0) := sp_new C2 (0, 0)
      have g12 : w.heap.size ≤ C2.heap.size := S2.below.size
      have n12 : bs ≠ C2.heap.size := by have := S2.size; omega
      replace r10 := r10.later bb
      go_simp
      refine hK.out _ _ ?_ (fun hHeld => ?_)
      · ((try dsimp only); exact S3.cells)
      clear hK K bb S2
      (try simp only [List.getElem_toArray, List.getElem_cons_succ, List.getElem_cons_zero, Act.put, List.setIfInBounds_toArray, List.set_cons_zero, List.set_cons_succ])
      generalize C2.alloc (.cells #[.int .i64 0, .int .i64 0] 24) = C3 at *
      generalize hp12 : C2.heap.size = p12 at *
      clear hp12
      refine wpAnyH_ready (rs := [11]) (by kernel_rfl) (by simp) ?_
      refine AllReadyH.cons (o := _) rfl (fun K hK => ?_) AllReadyH.nil
      go_simp
      (with_reducible refine (hull_any ((l.take t).drop f ++ [s]) _ _ _ C3 (sls_of r10)).mono ?_)
      rw [HONE.out]
      rintro e C4 ⟨rfl, bb⟩
      have S4 := S3.later bb
      replace x12 := x12.later bb
      refine hK.out _ _ ?_ (fun hHeld => ?_)
      · ((try dsimp only); exact S4.cells)
      clear hK K bb S3 r10
      (try simp only [List.getElem_toArray, List.getElem_cons_succ, List.getElem_cons_zero, Act.put, List.setIfInBounds_toArray, List.set_cons_zero, List.set_cons_succ])
      refine wpAnyH_ready (rs := [13]) (by kernel_rfl) (by simp) ?_
      refine AllReadyH.cons (o := _) rfl (fun K hK => ?_) AllReadyH.nil
      have z0 := x12.c0
      have z1 := x12.c1
      have z2 := x12.f0
      have z3 := x12.f1
      have xx := x12.put one.1 one.2
      have kk : Kept [p12] C4 ((C4.setCell ⟨p12, 0, none⟩ (.int .i64 one.1)).setCell ⟨p12, 1, none⟩ (.int .i64 one.2)) := kput C4 p12 _ _
      have S9 : AS w B bs a n cap l s ((C4.setCell ⟨p12, 0, none⟩ (.int .i64 one.1)).setCell ⟨p12, 1, none⟩ (.int .i64 one.2)) := as_put S4 g12 n12 kk (by rw [HBSZ.out]; exact HBB.out.1) (by rw [HBSZ.out]; exact HBB.out.2)
      go_simp
      refine hK.out _ _ ?_ (fun hHeld => ?_)
      · ((try dsimp only); exact S9.cells)
      clear hK K
      (try simp only [List.getElem_toArray, List.getElem_cons_succ, List.getElem_cons_zero, Act.put, List.setIfInBounds_toArray, List.set_cons_zero, List.set_cons_succ])
      refine wpAnyH_done (by kernel_rfl) ?_ _
      refine NoPanic.normal ?_
      have HS9 := Lib.hid (And.intro S9 xx)
      clear z0 z1 z2 z3 kk S9 xx hHeld x12 S4
      generalize (C4.setCell ⟨p12, 0, none⟩ (.int .i64 one.1)).setCell ⟨p12, 1, none⟩ (.int .i64 one.2) = W9 at *
      obtain ⟨S9, x9'⟩ := HS9.out
      have e0 := x9'.c0; have e1 := x9'.c1
      have bR := bal (w := W9) (.cells #[.int .i64 one.1, .int .i64 one.2] 24)
      have xR := sp_new W9 one
      have SR := S9.later bR
      have hgR := S9.below.size
      have HR := Lib.hid (replace_any (B := B) (f := f) (t := t) (sg := W9.heap.size) (k := 1) (ys := [one]) SR.at_ hft htn hn (by simp) (by have := HBB.out.1; have := HBSZ.out; omega) (fun hh => by have := HBB.out.2 _ hh; have := HBSZ.out; omega) (by simp) xR.lt (del_one one xR HONE0.out))
      rw [← HAD.out] at HR
      have HSR := Lib.hid SR
      clear S9 x9' HS9 bR xR SR
      go_wp2_with fail
      refine HR.out.mono ?_
      rintro e w12 hrep
      have hset := set_rep HH.out HSR.out.below hgR hrep
      clear hrep e0 e1
      rcases hset with ⟨h1, rfl, h2⟩ | ⟨h1, rfl, h2⟩
      · have hR : R = (0, 4, l) := by rw [HAN.out, if_pos h1]
        have HF := Lib.hid (show ChgPost B a cap R w (.returned (.tuple #[.int .i64 0, .int .i64 4])) w12 from by rw [hR]; exact ⟨rfl, h2⟩)
        clear h1 h2 hR
        go_wp2_with fail
        go_ret2
        exact HF.out
      · have hR : R = (cm, 0, L') := by rw [HAN.out, if_neg (by omega)]
        have HF := Lib.hid (show ChgPost B a cap R w (.returned (.tuple #[.int .i64 cm, .int .i64 0])) w12 from by rw [hR]; exact ⟨rfl, h2⟩)
        clear h1 h2 hR
        go_wp2_with fail
        go_ret2
        exact HF.out
    refine AllReadyH.cons (o := _) rfl (fun K hK => ?_) AllReadyH.nil
    have bb := bal (w := C1) (.cells #[.int .i64 0, .int .i64 0] 24)
    have S2 := S1.later bb
    have x12 : SpAt (C1.alloc (.cells #[.int .i64 0, .int .i64 0] 24)) C1.heap.size (0, 0) := sp_new C1 (0, 0)
    have g12 : w.heap.size ≤ C1.heap.size := S1.below.size
    have n12 : bs ≠ C1.heap.size := by have := S1.size; omega
    replace x9 := x9.later bb
    go_simp
    refine hK.out _ _ ?_ (fun hHeld => ?_)
    · ((try dsimp only); exact S2.cells)
    clear hK K bb S1
    (try simp only [List.getElem_toArray, List.getElem_cons_succ, List.getElem_cons_zero, Act.put, List.setIfInBounds_toArray, List.set_cons_zero, List.set_cons_succ])
    generalize C1.alloc (.cells #[.int .i64 0, .int .i64 0] 24) = C2 at *
    generalize hp12 : C1.heap.size = p12 at *
    clear hp12
    refine wpAnyH_ready (rs := [10]) (by kernel_rfl) (by simp) ?_
    refine AllReadyH.cons (o := _) rfl (fun K hK => ?_) AllReadyH.nil
    have rm := HM.out C2 S2
    refine step_append_full C2 rfl (.tmp 39) (.tmp 41) 28 28 rfl 24 i0 (.agg #[.int .i64 0, .int .i64 0]) 2 16 Try.underlying28 hi hz0 hz1 (by decide) hz2 rfl a7 (t - f) (spCells ((l.take t).drop f)) rfl rm (.slice (some ⟨p9, 0, none⟩) 1 1) rfl 1 (by decide) (spCells [s]) (span_src' x9) (by unfold maxLen; omega) (by omega) ?_
    intro a10 c10 C3 r10 bb b10
    rw [← spCells_append] at r10
    have S3 := S2.later bb
    replace x12 := x12.later bb
    refine hK.out _ _ ?_ (fun hHeld => ?_)
    · ((try dsimp only); exact S3.cells)
    clear hK K bb S2 rm b10
    (try simp only [List.getElem_toArray, List.getElem_cons_succ, List.getElem_cons_zero, Act.put, List.setIfInBounds_toArray, List.set_cons_zero, List.set_cons_succ])
    refine wpAnyH_ready (rs := [11]) (by kernel_rfl) (by simp) ?_
    refine AllReadyH.cons (o := _) rfl (fun K hK => ?_) AllReadyH.nil
    go_simp
    (with_reducible refine (hull_any ((l.take t).drop f ++ [s]) _ _ _ C3 (sls_of r10)).mono ?_)
    rw [HONE.out]
    rintro e C4 ⟨rfl, bb⟩
    have S4 := S3.later bb
    replace x12 := x12.later bb
    refine hK.out _ _ ?_ (fun hHeld => ?_)
    · ((try dsimp only); exact S4.cells)
    clear hK K bb S3 r10
    (try simp only [List.getElem_toArray, List.getElem_cons_succ, List.getElem_cons_zero, Act.put, List.setIfInBounds_toArray, List.set_cons_zero, List.set_cons_succ])
    refine wpAnyH_ready (rs := [13]) (by kernel_rfl) (by simp) ?_
    refine AllReadyH.cons (o := _) rfl (fun K hK => ?_) AllReadyH.nil
    have z0 := x12.c0
    have z1 := x12.c1
    have z2 := x12.f0
    have z3 := x12.f1
    have xx := x12.put one.1 one.2
    have kk : Kept [p12] C4 ((C4.setCell ⟨p12, 0, none⟩ (.int .i64 one.1)).setCell ⟨p12, 1, none⟩ (.int .i64 one.2)) := kput C4 p12 _ _
    have S9 : AS w B bs a n cap l s ((C4.setCell ⟨p12, 0, none⟩ (.int .i64 one.1)).setCell ⟨p12, 1, none⟩ (.int .i64 one.2)) := as_put S4 g12 n12 kk (by rw [HBSZ.out]; exact HBB.out.1) (by rw [HBSZ.out]; exact HBB.out.2)
    go_simp
    refine hK.out _ _ ?_ (fun hHeld => ?_)
    · ((try dsimp only); exact S9.cells)
    clear hK K
    (try simp only [List.getElem_toArray, List.getElem_cons_succ, List.getElem_cons_zero, Act.put, List.setIfInBounds_toArray, List.set_cons_zero, List.set_cons_succ])
    refine wpAnyH_done (by kernel_rfl) ?_ _
    refine NoPanic.normal ?_
    have HS9 := Lib.hid (And.intro S9 xx)
    clear z0 z1 z2 z3 kk S9 xx hHeld x12 S4
    generalize (C4.setCell ⟨p12, 0, none⟩ (.int .i64 one.1)).setCell ⟨p12, 1, none⟩ (.int .i64 one.2) = W9 at *
    obtain ⟨S9, x9'⟩ := HS9.out
    have e0 := x9'.c0; have e1 := x9'.c1
    have bR := bal (w := W9) (.cells #[.int .i64 one.1, .int .i64 one.2] 24)
    have xR := sp_new W9 one
    have SR := S9.later bR
    have hgR := S9.below.size
    have HR := Lib.hid (replace_any (B := B) (f := f) (t := t) (sg := W9.heap.size) (k := 1) (ys := [one]) SR.at_ hft htn hn (by simp) (by have := HBB.out.1; have := HBSZ.out; omega) (fun hh => by have := HBB.out.2 _ hh; have := HBSZ.out; omega) (by simp) xR.lt (del_one one xR HONE0.out))
    rw [← HAD.out] at HR
    have HSR := Lib.hid SR
    clear S9 x9' HS9 bR xR SR
    go_wp2_with fail
    refine HR.out.mono ?_
    rintro e w12 hrep
    have hset := set_rep HH.out HSR.out.below hgR hrep
    clear hrep e0 e1
    rcases hset with ⟨h1, rfl, h2⟩ | ⟨h1, rfl, h2⟩
    · have hR : R = (0, 4, l) := by rw [HAN.out, if_pos h1]
      have HF := Lib.hid (show ChgPost B a cap R w (.returned (.tuple #[.int .i64 0, .int .i64 4])) w12 from by rw [hR]; exact ⟨rfl, h2⟩)
      clear h1 h2 hR
      go_wp2_with fail
      go_ret2
      exact HF.out
    · have hR : R = (cm, 0, L') := by rw [HAN.out, if_neg (by omega)]
      have HF := Lib.hid (show ChgPost B a cap R w (.returned (.tuple #[.int .i64 cm, .int .i64 0])) w12 from by rw [hR]; exact ⟨rfl, h2⟩)
      clear h1 h2 hR
      go_wp2_with fail
      go_ret2
      exact HF.out
  refine AllReadyH.cons (o := _) rfl (fun K hK => ?_) AllReadyH.nil
  have bb := bal (w := C0) (.cells #[.int .i64 0, .int .i64 0] 24)
  have S1 := S0.later bb
  have x12 : SpAt (C0.alloc (.cells #[.int .i64 0, .int .i64 0] 24)) C0.heap.size (0, 0) := sp_new C0 (0, 0)
  have g12 : w.heap.size ≤ C0.heap.size := S0.below.size
  have n12 : bs ≠ C0.heap.size := by have := S0.size; omega
  go_simp
  refine hK.out _ _ ?_ (fun hHeld => ?_)
  · ((try dsimp only); exact S1.cells)
  clear hK K bb S0
  (try simp only [List.getElem_toArray, List.getElem_cons_succ, List.getElem_cons_zero, Act.put, List.setIfInBounds_toArray, List.set_cons_zero, List.set_cons_succ])
  generalize C0.alloc (.cells #[.int .i64 0, .int .i64 0] 24) = C1 at *
  generalize hp12 : C0.heap.size = p12 at *
  clear hp12
  refine wpAnyH_ready (rs := [9]) (by kernel_rfl) (by simp) ?_
  refine AllReadyH.cons (o := _) rfl (fun K hK => ?_) AllReadyH.nil
  have bb := bal (w := C1) (.cells #[.int .i64 s.1, .int .i64 s.2] 24)
  have S2 := S1.later bb
  have x9 := sp_new C1 s
  replace x12 := x12.later bb
  go_simp
  refine hK.out _ _ ?_ (fun hHeld => ?_)
  · ((try dsimp only); exact S2.cells)
  clear hK K bb S1
  (try simp only [List.getElem_toArray, List.getElem_cons_succ, List.getElem_cons_zero, Act.put, List.setIfInBounds_toArray, List.set_cons_zero, List.set_cons_succ])
  generalize C1.alloc (.cells #[.int .i64 s.1, .int .i64 s.2] 24) = C2 at *
  generalize hp9 : C1.heap.size = p9 at *
  clear hp9
  refine wpAnyH_ready (rs := [10]) (by kernel_rfl) (by simp) ?_
  refine AllReadyH.cons (o := _) rfl (fun K hK => ?_) AllReadyH.nil
  have rm := HM.out C2 S2
  refine step_append_full C2 rfl (.tmp 39) (.tmp 41) 28 28 rfl 24 i0 (.agg #[.int .i64 0, .int .i64 0]) 2 16 Try.underlying28 hi hz0 hz1 (by decide) hz2 rfl a7 (t - f) (spCells ((l.take t).drop f)) rfl rm (.slice (some ⟨p9, 0, none⟩) 1 1) rfl 1 (by decide) (spCells [s]) (span_src' x9) (by unfold maxLen; omega) (by omega) ?_
  intro a10 c10 C3 r10 bb b10
  rw [← spCells_append] at r10
  have S3 := S2.later bb
  replace x12 := x12.later bb
  refine hK.out _ _ ?_ (fun hHeld => ?_)
  · ((try dsimp only); exact S3.cells)
  clear hK K bb S2 rm b10
  (try simp only [List.getElem_toArray, List.getElem_cons_succ, List.getElem_cons_zero, Act.put, List.setIfInBounds_toArray, List.set_cons_zero, List.set_cons_succ])
  refine wpAnyH_ready (rs := [11]) (by kernel_rfl) (by simp) ?_
  refine AllReadyH.cons (o := _) rfl (fun K hK => ?_) AllReadyH.nil
  go_simp
  (with_reducible refine (hull_any ((l.take t).drop f ++ [s]) _ _ _ C3 (sls_of r10)).mono ?_)
  rw [HONE.out]
  rintro e C4 ⟨rfl, bb⟩
  have S4 := S3.later bb
  replace x12 := x12.later bb
  refine hK.out _ _ ?_ (fun hHeld => ?_)
  · ((try dsimp only); exact S4.cells)
  clear hK K bb S3 r10
  (try simp only [List.getElem_toArray, List.getElem_cons_succ, List.getElem_cons_zero, Act.put, List.setIfInBounds_toArray, List.set_cons_zero, List.set_cons_succ])
  refine wpAnyH_ready (rs := [13]) (by kernel_rfl) (by simp) ?_
  refine AllReadyH.cons (o := _) rfl (fun K hK => ?_) AllReadyH.nil
  have z0 := x12.c0
  have z1 := x12.c1
  have z2 := x12.f0
  have z3 := x12.f1
  have xx := x12.put one.1 one.2
  have kk : Kept [p12] C4 ((C4.setCell ⟨p12, 0, none⟩ (.int .i64 one.1)).setCell ⟨p12, 1, none⟩ (.int .i64 one.2)) := kput C4 p12 _ _
  have S9 : AS w B bs a n cap l s ((C4.setCell ⟨p12, 0, none⟩ (.int .i64 one.1)).setCell ⟨p12, 1, none⟩ (.int .i64 one.2)) := as_put S4 g12 n12 kk (by rw [HBSZ.out]; exact HBB.out.1) (by rw [HBSZ.out]; exact HBB.out.2)
  go_simp
  refine hK.out _ _ ?_ (fun hHeld => ?_)
  · ((try dsimp only); exact S9.cells)
  clear hK K
  (try simp only [List.getElem_toArray, List.getElem_cons_succ, List.getElem_cons_zero, Act.put, List.setIfInBounds_toArray, List.set_cons_zero, List.set_cons_succ])
  refine wpAnyH_done (by kernel_rfl) ?_ _
  refine NoPanic.normal ?_
  have HS9 := Lib.hid (And.intro S9 xx)
  clear z0 z1 z2 z3 kk S9 xx hHeld x12 S4
  generalize (C4.setCell ⟨p12, 0, none⟩ (.int .i64 one.1)).setCell ⟨p12, 1, none⟩ (.int .i64 one.2) = W9 at *
  obtain ⟨S9, x9'⟩ := HS9.out
  have e0 := x9'.c0; have e1 := x9'.c1
  have bR := bal (w := W9) (.cells #[.int .i64 one.1, .int .i64 one.2] 24)
  have xR := sp_new W9 one
  have SR := S9.later bR
  have hgR := S9.below.size
  have HR := Lib.hid (replace_any (B := B) (f := f) (t := t) (sg := W9.heap.size) (k := 1) (ys := [one]) SR.at_ hft htn hn (by simp) (by have := HBB.out.1; have := HBSZ.out; omega) (fun hh => by have := HBB.out.2 _ hh; have := HBSZ.out; omega) (by simp) xR.lt (del_one one xR HONE0.out))
  rw [← HAD.out] at HR
  have HSR := Lib.hid SR
  clear S9 x9' HS9 bR xR SR
  go_wp2_with fail
  refine HR.out.mono ?_
  rintro e w12 hrep
  have hset := set_rep HH.out HSR.out.below hgR hrep
  clear hrep e0 e1
  rcases hset with ⟨h1, rfl, h2⟩ | ⟨h1, rfl, h2⟩
  · have hR : R = (0, 4, l) := by rw [HAN.out, if_pos h1]
    have HF := Lib.hid (show ChgPost B a cap R w (.returned (.tuple #[.int .i64 0, .int .i64 4])) w12 from by rw [hR]; exact ⟨rfl, h2⟩)
    clear h1 h2 hR
    go_wp2_with fail
    go_ret2
    exact HF.out
  · have hR : R = (cm, 0, L') := by rw [HAN.out, if_neg (by omega)]
    have HF := Lib.hid (show ChgPost B a cap R w (.returned (.tuple #[.int .i64 cm, .int .i64 0])) w12 from by rw [hR]; exact ⟨rfl, h2⟩)
    clear h1 h2 hR
    go_wp2_with fail
    go_ret2
    exact HF.out
end Go.Proofs.Ytgjkbejlfclpoaa.rn
