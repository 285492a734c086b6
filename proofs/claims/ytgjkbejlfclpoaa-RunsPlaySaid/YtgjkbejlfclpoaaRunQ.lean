/-
  Package runs: parts, Within, Bytes.
-/
import Derived.Test.YtgjkbejlfclpoaaRunP
import Derived.Test.YtgjkbejlfclpoaaRngB
namespace Go.Proofs.Ytgjkbejlfclpoaa.rn
open Go.RowKit Go.Shelf aid mem rng sp
attribute [local go_sem] Oper.semAt_some
set_option linter.unusedVariables false
set_option linter.unusedSimpArgs false

theorem undrew {X w2 : World} (h : Below X.drew.heap.size X.drew w2) : Below X.heap.size X w2 := ⟨h.os, h.tape, h.output, h.size, h.block⟩
theorem eg_parts (args : Array Value) (w : World) : (callFunc 60 args).run Try.prog w = .ok (.enter 60 args) w := by kernel_rfl
/-- an iterator over spans is handed back -/
def SeqS (g : Nat) (L : List Sp) (A : Nat → Prop) (w : World) (e : Ending) (w' : World) : Prop :=
  ∃ lb, e = .returned (.func (.func g) #[] lb) ∧ SeqOf Try.prog g lb spE L A w' ∧ Below w.heap.size w w'
theorem parts_any {w : World} {v : Value} {a : Option Addr} {n cap : Nat} {l : List Sp} (hr : Rv w v a n cap l) (hl : Rn l) (hn : n < 1000000000000) (s : Sp) (A : Nat → Prop) (hA : ∀ k, A k → k < w.heap.size) (har : ∀ b ∈ blk a cap, ¬ A b) :
    Calls Try.prog 41 #[v, spV s] w (SeqS 60 (partsL l s) A w) := by
  obtain ⟨p, rfl⟩ := hr.ptr
  have b1 := bal (w := w) (.cells #[.pointer p] 26)
  have x1 := heap_alloc_new w (.cells #[.pointer p] 26)
  have hz1 : (w.alloc (.cells #[.pointer p] 26)).heap.size = w.heap.size + 1 := by simp
  have b2 := bal (w := w.alloc (.cells #[.pointer p] 26)) (.cells #[.int .i64 s.1, .int .i64 s.2] 24)
  have s2 := sp_new (w.alloc (.cells #[.pointer p] 26)) s
  have x2 := (b2.block _ (lt_of_block x1)).trans x1
  have c2 := cofr x2 0 _ rfl
  have b3 := b1.trans (b2.mono b1.size)
  have HF := Lib.hid (show SeqS 60 (partsL l s) A w (.returned (.func (.func 60) #[] #[.pointer (some ⟨w.heap.size, 0, none⟩), .pointer (some ⟨(w.alloc (.cells #[.pointer p] 26)).heap.size, 0, none⟩)])) _ from
    ⟨_, rfl, parts1_seq (A := A) (hr.later b3) hl hn c2 s2 (fun e => by have := hA _ e; omega) (fun e => by have := hA _ e; omega) har, b3⟩)
  rw [hz1] at HF
  clear b1 x1 hz1 b2 s2 x2 c2 b3 hA har hr
  go_enter Try.func41, Try.ntmps41
  go_wp2_with fail
  go_ret
  exact HF.out
theorem all1_any {w : World} {v : Value} {a : Option Addr} {n cap : Nat} {l : List Sp} (hr : Rv w v a n cap l) (hl : Rn l) (hn : n < 1000000000000) (A : Nat → Prop) (hA : ∀ k, A k → k < w.heap.size) (har : ∀ b ∈ blk a cap, ¬ A b) :
    Calls Try.prog 32 #[v] w (SeqS 60 l A w) := by
  have HP := Lib.hid (parts_any hr hl hn (0, 4611686018427387904) A hA har)
  rw [parts_all hl] at HP
  clear hA har
  obtain ⟨p, rfl⟩ := hr.ptr
  clear hr
  go_enter Try.func32, Try.ntmps32
  go_wp2_with (go_at_call 41; go_must (with_reducible refine HP.out.mono ?_); rintro e w3 ⟨lb, rfl, hseq, hb3⟩)
  go_ret
  exact ⟨lb, rfl, hseq, hb3⟩

/-- a sum so far, in its box -/
structure WI (w : World) (bn : Nat) (pre : List Sp) (C : Nat → Prop) (X : World) : Prop where
  hn : X.heap[bn]? = some (.cells #[.int .i64 (bytesL pre)] 3 (0, 0))
  cb : C bn
  below : Below w.heap.size w X
theorem wi_bears {w : World} {bn D : Nat} (h : bn < D) (hw : w.heap.size ≤ bn) : Bears D (WI w bn) := by
  rintro pre C X Y hc hz hs
  exact ⟨hs.heap (.inl (by omega)) hc.hn, hc.cb, hc.below.trans (hs.below (by omega) (fun k hk => .inl (by omega)))⟩
/-- no way out but the end -/
def NoX (c : Code) (pre : List Sp) (C : Nat → Prop) (X : World) : Prop := False
theorem nox_bears (D : Nat) (c : Code) : Bears D (NoX c) := fun _ _ _ _ h => h.elim
/-- a span's box -/
def BxS (n0 b : Nat) (y : Sp) (C : Nat → Prop) (X : World) : Prop := SpAt X b y ∧ n0 ≤ b ∧ C b
theorem bxs_bears (n0 b : Nat) (y : Sp) : Bears n0 (fun (_ : Unit) C W => BxS n0 b y C W) := by
  rintro _ C X Y ⟨h1, h2, h3⟩ hz hs
  exact ⟨hs.heap (.inr h3) h1, h2, h3⟩
set_option maxRecDepth 100000 in
set_option maxHeartbeats 4000000 in
theorem within_any {w : World} {v : Value} {a : Option Addr} {n cap : Nat} {l : List Sp} (hr : Rv w v a n cap l) (hl : Rn l) (hn : n < 1000000000000) (s : Sp) :
    Calls Try.prog 20 #[v, spV s] w (RetI (withinL l s) w) := by
  obtain ⟨p1, p2, p3, _⟩ := parts_spec s hl
  have hbd := p1.bytes
  rw [← p3]
  clear p2 p3
  obtain ⟨p, rfl⟩ := hr.ptr
  have hblk := fun b hb => (hr.row.lt b hb).1
  have HPA := Lib.hid (fun (X : World) (hX : Below w.heap.size w X) (A : Nat → Prop) (hA : ∀ k, A k → k < X.heap.size) (har : ∀ b ∈ blk a cap, ¬ A b) => parts_any (hr.later hX) hl hn s A hA har)
  have HPR := Lib.hid (fun (pre : List Sp) (y : Sp) (hp : pre ++ [y] <+: partsL l s) => show 0 ≤ bytesL pre ∧ bytesL (pre ++ [y]) = bytesL pre + lenI y ∧ bytesL (pre ++ [y]) ≤ 4611686018427387904 from by
    have h1 : Rn (pre ++ [y]) := by
      obtain ⟨t, ht⟩ := hp
      rw [← ht] at p1
      exact p1.left
    refine ⟨h1.left.bytes.1, ?_, h1.bytes.2⟩
    rw [bytes_append, bytes_cons, bytes_nil]
    omega)
  generalize partsL l s = L at *
  have hMO : Try.prog.follows .mixedOrders = true := by kernel_rfl
  refine (callsIn_wide (n := 6)).1 ?_
  refine callsIn_of_wp_marks Try.func20 rfl trivial ?_ rfl
  simp only [Try.ntmps20, List.size_toArray, List.length_cons, List.length_nil, Nat.reduceAdd, Nat.reduceSub, Array.replicate_succ, Array.replicate_zero, List.push_toArray, List.append_toArray, List.nil_append, List.cons_append]
  have b1 := bal (w := w) (.cells #[.int .i64 s.1, .int .i64 s.2] 24)
  have s1 := sp_new w s
  have b2 := bal (w := w.alloc (.cells #[.int .i64 s.1, .int .i64 s.2] 24)) (.cells #[.int .i64 0] 3)
  have n2 := heap_alloc_new (w.alloc (.cells #[.int .i64 s.1, .int .i64 s.2] 24)) (.cells #[.int .i64 0] 3)
  have hz1 : (w.alloc (.cells #[.int .i64 s.1, .int .i64 s.2] 24)).heap.size = w.heap.size + 1 := by simp
  rw [hz1] at n2
  have s2 := s1.later b2
  have b12 := b1.trans (b2.mono b1.size)
  have c0 := s2.c0; have c1 := s2.c1
  have hz2 : ((w.alloc (.cells #[.int .i64 s.1, .int .i64 s.2] 24)).alloc (.cells #[.int .i64 0] 3)).heap.size = w.heap.size + 1 + 1 := by simp
  have HP := Lib.hid (HPA.out _ b12 (fun k => k = w.heap.size + 1) (fun k hk => by omega) (fun b hb => by have := hblk b hb; omega))
  have HS2 := Lib.hid (And.intro b12 (And.intro n2 hz2))
  clear b1 s1 b2 n2 hz1 s2 b12 hz2 hr hblk HPA
  gi_wp2
  refine ⟨trivial, ?_⟩
  refine (callsIn_wide.2 HP.out).mono ?_
  rintro e w9 ⟨lb, rfl, hseq, h9⟩
  obtain ⟨b12, n2, hz2⟩ := HS2.out
  have hz9 := h9.size
  have hb9 := b12.trans (h9.mono b12.size)
  have hn9 := (h9.block _ (by omega)).trans n2
  rw [hz2] at hz9
  have HSEQ := Lib.hid hseq
  clear hseq h9 b12 n2 hz2 HS2 HP c0 c1
  obtain ⟨bn, hbn⟩ : ∃ bn, bn = w.heap.size + 1 := ⟨_, rfl⟩
  rw [← hbn] at hn9 HSEQ hz9 ⊢
  have hbw : w.heap.size ≤ bn := by omega
  have HBN := Lib.hid hbn
  clear hbn
  have HWI : Hid (WI w bn [] (fun k => k = bn) w9) := Lib.hid ⟨hn9, rfl, hb9⟩
  clear hn9 hb9
  gi_wp2
  refine wpIn_rangeBox (fun (b : Nat) (y : Sp) (t : Array Value) => (t.setIfInBounds 10 (spV y)).setIfInBounds 6 (.pointer (some ⟨b, 0, none⟩))) (gf := 60) (lb := lb) (L := L) (A := fun k => k = bn) (w0 := w9) (encs := spE) rfl eg_parts HSEQ.out (Below.refl _ _) (fun _ => rfl)
    (WI w bn) NoX (fun k => k = bn) ?hc0 (wi_bears (by omega) hbw) (nox_bears _) HWI.out (BxS w9.heap.size) (bxs_bears w9.heap.size) ?assign ?body ?done ?stop
  case hc0 =>
    rintro k rfl
    exact ⟨.inl rfl, by omega⟩
  case assign =>
    intro l' pre y C X K hI hp hc hz hK
    have b1 := bal (w := X) (.cells #[.int .i64 y.1, .int .i64 y.2] 24)
    have HK := Lib.hid (hK X.heap.size (fun k => C k ∨ k = X.heap.size) _ ⟨Steps.of_below b1 _, fun k hk => by rcases hk with hk | rfl; exact .inl hk; exact .inr ⟨Nat.le_refl _, by simp⟩⟩
      ⟨(b1.block _ (lt_of_block hI.hn)).trans hI.hn, .inl hI.cb, hI.below.trans (b1.mono hI.below.size)⟩ ⟨sp_new X y, hz, .inr rfl⟩)
    clear hK hI hp hc b1
    gi_wp2
    exact HK.out
  case body =>
    rintro l' pre y b C X hI ⟨hyb, hb, hcb⟩ hp hcc hz
    obtain ⟨q0, q1, q2⟩ := HPR.out pre y hp
    have hly := lenI_bd y
    have HLN := Lib.hid (fun X => len_any y X)
    have hyd : SpAt X.drew b y := hyb
    have hnd : X.drew.heap[bn]? = some (.cells #[.int .i64 (bytesL pre)] 3 (0, 0)) := hI.hn
    have cn := cofr hnd 0 _ rfl
    have hne : bn ≠ b := by omega
    have HEND := Lib.hid (fun (w2 : World) (h2 : Below X.drew.heap.size X.drew w2) (h3 : (w2.setCell ⟨bn, 0, none⟩ (.int .i64 (bytesL pre + lenI y))).heap[bn]? = some (.cells #[.int .i64 (bytesL pre + lenI y)] 3 (0, 0))) (a' : Act) =>
      show rPost (WI w bn) NoX (pre ++ [y]) C X .normal a' (w2.setCell ⟨bn, 0, none⟩ (.int .i64 (bytesL pre + lenI y))) from
        ⟨C, ⟨(Steps.of_below (undrew h2) _).trans (rng.Steps.setCell _ w2 ⟨bn, 0, none⟩ _ (fun hh => hh hI.cb)), fun _ hk => .inl hk⟩,
          ⟨by rw [q1]; exact h3, hI.cb, (hI.below.trans ((undrew h2).mono hI.below.size)).setCell (p := ⟨bn, 0, none⟩) (by simp only; omega) _⟩⟩)
    have HST := Lib.hid (fun (w2 : World) (h2 : Below X.drew.heap.size X.drew w2) (v : Value) => show (w2.setCell ⟨bn, 0, none⟩ v).cell? ⟨b, 0, none⟩ = some (.int .i64 y.1) ∧ (w2.setCell ⟨bn, 0, none⟩ v).cell? ⟨b, 1, none⟩ = some (.int .i64 y.2) from
      ⟨(set_other (by simp [hne])).trans (hyd.later h2).c0, (set_other (by simp [hne])).trans (hyd.later h2).c1⟩)
    have hw1 : IntKind.i64.wrap (bytesL pre + lenI y) = bytesL pre + lenI y := IntWalk.i64_in _ (by omega)
    have fz0 : X.drew.frozen? ⟨bn, 0, none⟩ = false := fofr hnd 0
    have hHeld : (fun w' => w'.cell? ⟨b, 0, none⟩ = some (.int .i64 y.1) ∧ w'.cell? ⟨b, 1, none⟩ = some (.int .i64 y.2)) X.drew := ⟨hyd.c0, hyd.c1⟩
    generalize hRP : rPost (WI w bn) NoX (pre ++ [y]) C X = RP at *
    clear hRP hI hyb hcb hp hcc HPR HSEQ HWI q1
    simp only [List.setIfInBounds_toArray, List.set_cons_zero, List.set_cons_succ]
    gi_wp2
    refine wpIn_region_inR (S := (fun w' => w'.cell? ⟨b, 0, none⟩ = some (.int .i64 y.1) ∧ w'.cell? ⟨b, 1, none⟩ = some (.int .i64 y.2))) hMO (by kernel_rfl) ?_
    refine wpAnyH_take (i := 1) (oi := _) (v := ?_) rfl (by kernel_rfl) (by kernel_rfl) (by kernel_rfl) (fun _ _ _ h => h) (Or.inl ⟨by rfl, ?_⟩) (by assumption) ?_
    rotate_left
    · (first | (intro v hSw; (try dsimp only at hSw); go_simp; done) | (intro v hSw; (try dsimp only at hSw); go_simp; with_reducible rfl))
    (try simp only [List.getElem_toArray, List.getElem_cons_succ, List.getElem_cons_zero, Act.put, List.setIfInBounds_toArray, List.set_cons_zero, List.set_cons_succ])
    refine wpAnyH_ready (rs := [0, 2]) (by kernel_rfl) (by simp) ?_
    refine AllReadyH.cons (o := _) rfl (fun K hK => ?_) ?_
    · go_simp
      refine hK.out _ _ ?_ (fun hHeld => ?_)
      · ((try dsimp only); exact hHeld)
      clear hK K
      (try simp only [List.getElem_toArray, List.getElem_cons_succ, List.getElem_cons_zero, Act.put, List.setIfInBounds_toArray, List.set_cons_zero, List.set_cons_succ])
      refine wpAnyH_ready (rs := [2]) (by kernel_rfl) (by simp) ?_
      refine AllReadyH.cons (o := _) rfl (fun K hK => ?_) AllReadyH.nil
      go_simp
      (with_reducible refine (HLN.out _).mono ?_)
      rintro e w2 ⟨rfl, h2⟩
      have cn2 := kcell h2 cn
      have hn2 := (h2.block bn (lt_of_block hnd)).trans hnd
      have fz2 : w2.frozen? ⟨bn, 0, none⟩ = false := fofr hn2 0
      have y2 := hyd.later h2
      refine hK.out _ _ ?_ (fun hHeld => ?_)
      · ((try dsimp only); exact ⟨y2.c0, y2.c1⟩)
      clear hK K
      (try simp only [List.getElem_toArray, List.getElem_cons_succ, List.getElem_cons_zero, Act.put, List.setIfInBounds_toArray, List.set_cons_zero, List.set_cons_succ])
      refine wpAnyH_take (i := 3) (oi := _) (v := ?_) rfl (by kernel_rfl) (by kernel_rfl) (by kernel_rfl) (fun _ _ _ h => h) (Or.inl ⟨by rfl, ?_⟩) (by assumption) ?_
      rotate_left
      · (first | (intro v hSw; (try dsimp only at hSw); go_simp; done) | (intro v hSw; (try dsimp only at hSw); go_simp; with_reducible rfl))
      (try simp only [List.getElem_toArray, List.getElem_cons_succ, List.getElem_cons_zero, Act.put, List.setIfInBounds_toArray, List.set_cons_zero, List.set_cons_succ])
      refine wpAnyH_ready (rs := [4]) (by kernel_rfl) (by simp) ?_
      refine AllReadyH.cons (o := _) rfl (fun K hK => ?_) AllReadyH.nil
      go_simp
      refine hK.out _ _ ?_ (fun hHeld => ?_)
      · ((try dsimp only); exact HST.out _ h2 _)
      clear hK K
      (try simp only [List.getElem_toArray, List.getElem_cons_succ, List.getElem_cons_zero, Act.put, List.setIfInBounds_toArray, List.set_cons_zero, List.set_cons_succ])
      refine wpAnyH_done (by kernel_rfl) ?_ _
      refine OnlyN.normal ?_
      have hn3 := (heap_setCell_same w2 bn 0 _ _ (.int .i64 (bytesL pre + lenI y)) hn2).trans rfl
      have HE := Lib.hid (HEND.out _ h2 hn3)
      clear hHeld cn2 hn2 fz2 y2 hn3 h2
      gi_wp2
      exact HE.out _
    refine AllReadyH.cons (o := _) rfl (fun K hK => ?_) AllReadyH.nil
    go_simp
    (with_reducible refine (HLN.out _).mono ?_)
    rintro e w2 ⟨rfl, h2⟩
    have cn2 := kcell h2 cn
    have hn2 := (h2.block bn (lt_of_block hnd)).trans hnd
    have fz2 : w2.frozen? ⟨bn, 0, none⟩ = false := fofr hn2 0
    have y2 := hyd.later h2
    refine hK.out _ _ ?_ (fun hHeld => ?_)
    · ((try dsimp only); exact ⟨y2.c0, y2.c1⟩)
    clear hK K
    (try simp only [List.getElem_toArray, List.getElem_cons_succ, List.getElem_cons_zero, Act.put, List.setIfInBounds_toArray, List.set_cons_zero, List.set_cons_succ])
    refine wpAnyH_ready (rs := [0]) (by kernel_rfl) (by simp) ?_
    refine AllReadyH.cons (o := _) rfl (fun K hK => ?_) AllReadyH.nil
    go_simp
    refine hK.out _ _ ?_ (fun hHeld => ?_)
    · ((try dsimp only); exact hHeld)
    clear hK K
    (try simp only [List.getElem_toArray, List.getElem_cons_succ, List.getElem_cons_zero, Act.put, List.setIfInBounds_toArray, List.set_cons_zero, List.set_cons_succ])
    refine wpAnyH_take (i := 3) (oi := _) (v := ?_) rfl (by kernel_rfl) (by kernel_rfl) (by kernel_rfl) (fun _ _ _ h => h) (Or.inl ⟨by rfl, ?_⟩) (by assumption) ?_
    rotate_left
    · (first | (intro v hSw; (try dsimp only at hSw); go_simp; done) | (intro v hSw; (try dsimp only at hSw); go_simp; with_reducible rfl))
    (try simp only [List.getElem_toArray, List.getElem_cons_succ, List.getElem_cons_zero, Act.put, List.setIfInBounds_toArray, List.set_cons_zero, List.set_cons_succ])
    refine wpAnyH_ready (rs := [4]) (by kernel_rfl) (by simp) ?_
    refine AllReadyH.cons (o := _) rfl (fun K hK => ?_) AllReadyH.nil
    go_simp
    refine hK.out _ _ ?_ (fun hHeld => ?_)
    · ((try dsimp only); exact HST.out _ h2 _)
    clear hK K
    (try simp only [List.getElem_toArray, List.getElem_cons_succ, List.getElem_cons_zero, Act.put, List.setIfInBounds_toArray, List.set_cons_zero, List.set_cons_succ])
    refine wpAnyH_done (by kernel_rfl) ?_ _
    refine OnlyN.normal ?_
    have hn3 := (heap_setCell_same w2 bn 0 _ _ (.int .i64 (bytesL pre + lenI y)) hn2).trans rfl
    have HE := Lib.hid (HEND.out _ h2 hn3)
    clear hHeld cn2 hn2 fz2 y2 hn3 h2
    gi_wp2
    exact HE.out _

  case done =>
    rintro D C X hD hCD hI hK
    have cn := cofr hI.hn 0 _ rfl
    have HB := Lib.hid hI.below
    have HK := Lib.hid hK
    have hbd2 : bn < D := by omega
    have hn13 : (X.putObj D (.deferred none)).heap[bn]? = some (.cells #[.int .i64 (bytesL L)] 3 (0, 0)) := (World.putObj_heap_other (by omega)).trans hI.hn
    have b14 := hI.below.trans ((rng.Steps.putObj (fun q => q < w.heap.size) X D (.deferred none) (by omega)).below (n := w.heap.size) hI.below.size (fun _ h => h))
    have HB14 := Lib.hid b14
    clear hI hK hn13 b14 HSEQ HWI HPR
    gi_wp2
    refine ⟨by simp, .inl ⟨_, _, rfl, run_takeDeferred HK.out, ?_⟩⟩
    exact ⟨.int .i64 (bytesL L), by simp [results, Try.results20, go_sem], rfl, HB14.out⟩
  case stop =>
    rintro D c pre C X hD hCD hI hK
    exact hI.elim
theorem bytes_any {w : World} {v : Value} {a : Option Addr} {n cap : Nat} {l : List Sp} (hr : Rv w v a n cap l) (hl : Rn l) (hn : n < 1000000000000) :
    Calls Try.prog 11 #[v] w (RetI (bytesL l) w) := by
  have HP := Lib.hid (within_any hr hl hn (0, 4611686018427387904))
  rw [within_all hl] at HP
  obtain ⟨p, rfl⟩ := hr.ptr
  clear hr
  go_enter Try.func11, Try.ntmps11
  go_wp2_with (go_at_call 20; go_must (with_reducible refine HP.out.mono ?_); rintro e w3 ⟨rfl, hb3⟩)
  go_ret
  exact ⟨rfl, hb3⟩
end Go.Proofs.Ytgjkbejlfclpoaa.rn
