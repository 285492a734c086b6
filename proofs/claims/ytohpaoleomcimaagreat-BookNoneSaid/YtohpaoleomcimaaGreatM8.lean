/-
  Several texts in one: BokV BokC BokD RngR BokE BokF BokH
-/
import Derived.Test.YtohpaoleomcimaaGreatM7
/-!   Package book: how many bytes are under way (Pipe). (Written by gen_bokv.py.)
-/
namespace Go.Proofs.YtohpaoleomcimaaGreat.bk
open Go.RowKit Go.Shelf aid mem rng sp rn bd
attribute [local go_sem] Oper.semAt_some
set_option linter.unusedVariables false
set_option linter.unusedSimpArgs false

abbrev rcB (r : Rc) : Obj := .cells (rcC r) 50
/-- the boxes of Pipe in a round: the board's, the answer's, the sum's, the record's -/
structure PX (w X0 : World) (px : Option Addr) (a : Int) (b : Nat) (r : Rc) (X : World) : Prop where
  rb : X.heap[b]? = some (rcB r)
  xb : X.heap[w.heap.size]? = some (.cells #[.pointer px] 29 (0, 0))
  zb : X.heap[w.heap.size + 1]? = some (.cells #[.int .i64 0] 3 (0, 0))
  ab : X.heap[w.heap.size + 2]? = some (.cells #[.int .i64 a] 3 (0, 0))
  below : Below w.heap.size w X
  bge : w.heap.size + 2 < b
  bx : Below X0.heap.size X0 X
abbrev S3r (n b : Nat) (r : Rc) (px : Option Addr) (W : World) : Prop := W.cell? ⟨b, 0, none⟩ = some (.int .i64 r.f) ∧ W.cell? ⟨b, 1, none⟩ = some (.int .i64 r.t) ∧ W.cell? ⟨n, 0, none⟩ = some (.pointer px)
section
variable {w X0 X Y : World} {px : Option Addr} {a : Int} {b : Nat} {r : Rc}
theorem PX.later (h : PX w X0 px a b r X) (hb : Below X.heap.size X Y) : PX w X0 px a b r Y :=
  ⟨(hb.block _ (lt_of_block h.rb)).trans h.rb, (hb.block _ (lt_of_block h.xb)).trans h.xb, (hb.block _ (lt_of_block h.zb)).trans h.zb, (hb.block _ (lt_of_block h.ab)).trans h.ab, h.below.trans (hb.mono h.below.size), h.bge, h.bx.trans (hb.mono h.bx.size)⟩
theorem PX.s3 (h : PX w X0 px a b r X) : S3r w.heap.size b r px X := ⟨cofr h.rb 0 _ rfl, cofr h.rb 1 _ rfl, cofr h.xb 0 _ rfl⟩
theorem PX.s6 (h : PX w X0 px a b r X) : X.cell? ⟨b, 5, none⟩ = some (.int .i64 r.out) := cofr h.rb 5 _ rfl
theorem PX.s7 (h : PX w X0 px a b r X) : X.cell? ⟨w.heap.size + 2, 0, none⟩ = some (.int .i64 a) := cofr h.ab 0 _ rfl
theorem PX.f7 (h : PX w X0 px a b r X) : X.frozen? ⟨w.heap.size + 2, 0, none⟩ = false := fofr h.ab 0
theorem PX.s9 (h : PX w X0 px a b r X) : X.cell? ⟨w.heap.size + 1, 0, none⟩ = some (.int .i64 0) := cofr h.zb 0 _ rfl
theorem PX.f9 (h : PX w X0 px a b r X) : X.frozen? ⟨w.heap.size + 1, 0, none⟩ = false := fofr h.zb 0
end
/-- between two rounds -/
structure PI (w : World) (px : Option Addr) (s : Bs) (N : List Nd) (pre : List Nd) (C : Nat → Prop) (X : World) (a : Int) : Prop where
  xb : X.heap[w.heap.size]? = some (.cells #[.pointer px] 29 (0, 0))
  zb : X.heap[w.heap.size + 1]? = some (.cells #[.int .i64 0] 3 (0, 0))
  ab : X.heap[w.heap.size + 2]? = some (.cells #[.int .i64 a] 3 (0, 0))
  c1 : C (w.heap.size + 1)
  c2 : C (w.heap.size + 2)
  below : Below w.heap.size w X
  bd : 0 ≤ a ∧ a ≤ 9223372036854775807
  eq : pipeF s (N.map (·.2)) 0 = pipeF s ((N.drop pre.length).map (·.2)) a
def PIx (w : World) (px : Option Addr) (s : Bs) (N : List Nd) (pre : List Nd) (C : Nat → Prop) (X : World) : Prop := ∃ a, PI w px s N pre C X a
/-- it is more than a number can say -/
def PIz (w : World) (s : Bs) (N : List Nd) (c : Code) (pre : List Nd) (C : Nat → Prop) (X : World) : Prop :=
  isRet c ∧ X.heap[w.heap.size + 1]? = some (.cells #[.int .i64 9223372036854775807] 3 (0, 0)) ∧ C (w.heap.size + 1) ∧ Below w.heap.size w X ∧ pipeF s (N.map (·.2)) 0 = 9223372036854775807
theorem pi_bears {w : World} {px : Option Addr} {s : Bs} {N : List Nd} {n : Nat} (hn : w.heap.size + 2 < n) : Bears n (PIx w px s N) := by
  rintro pre C X Y ⟨a, h⟩ hz hs
  exact ⟨a, hs.heap (.inl (by omega)) h.xb, hs.heap (.inl (by omega)) h.zb, hs.heap (.inl (by omega)) h.ab, h.c1, h.c2, h.below.trans (hs.below h.below.size (fun k hk => .inl (by omega))), h.bd, h.eq⟩
theorem piz_bears {w : World} {s : Bs} {N : List Nd} {n : Nat} (hn : w.heap.size + 2 < n) (c : Code) : Bears n (PIz w s N c) := by
  rintro pre C X Y ⟨h1, h2, h3, h4, h5⟩ hz hs
  exact ⟨h1, hs.heap (.inl (by omega)) h2, h3, h4.trans (hs.below h4.size (fun k hk => .inl (by omega))), h5⟩
/-- the record's box -/
def PIb (n0 : Nat) (_pre : List Nd) (b : Nat) (y : Nd) (C : Nat → Prop) (X : World) : Prop := X.heap[b]? = some (rcB y.2) ∧ n0 ≤ b ∧ C b
theorem pib_bears {n0 : Nat} (pre : List Nd) (b : Nat) (y : Nd) : Bears n0 (fun (_ : Unit) C W => PIb n0 pre b y C W) := by
  rintro _ C X Y ⟨h1, h2, h3⟩ hz hs
  exact ⟨hs.heap (.inr h3) h1, h2, h3⟩
theorem drop_at {N pre : List Nd} {y : Nd} (h : pre ++ [y] <+: N) : N.drop pre.length = y :: N.drop (pre ++ [y]).length := by
  obtain ⟨t, rfl⟩ := h
  simp
theorem mem_at {N pre : List Nd} {y : Nd} (h : pre ++ [y] <+: N) : y ∈ N := h.subset (by simp)
set_option maxRecDepth 100000 in
set_option maxHeartbeats 8000000 in
theorem pipe_any {w : World} {p px : Option Addr} {N L : List Nd} {s : Bs} (h : BO w p N L) (hlo : Lo N) (hout : Outs N) (hx : BdO w px s) :
    Calls Tryz.prog 27 #[.pointer p, .pointer px] w (RetI (pipeF s (N.map (·.2)) 0) w) := by
  have HBO := hx.ok
  have HALL := Lib.hid (fun (X : World) (hX : Below w.heap.size w X) (A : Nat → Prop) (hA : ∀ k, A k → w.heap.size ≤ k ∧ k < X.heap.size) => all_any hX h hlo A (fun k hk => ⟨(hA k hk).2, fun cs e => by have := lt_of_block e; have := (hA k hk).1; omega⟩) (fun y hy e => by obtain ⟨q1, q2, hn⟩ := h.nd y hy; have := hn.lt; have := (hA _ e).1; omega))
  have HUNA := Lib.hid (fun (X : World) (hX : Below w.heap.size w X) => una_any (hx.later hX))
  have HWIA := Lib.hid (fun (y : Sp) (X : World) (hX : Below w.heap.size w X) => bwithin_any (hx.later hX) y)
  have HBD := Lib.hid (fun (r : Rc) => miss_bd HBO r)
  have HOUT := Lib.hid hout
  have hMO : Tryz.prog.follows .mixedOrders = true := by kernel_rfl
  clear h hx hlo hout HBO
  refine (callsIn_wide (n := 6)).1 ?_
  refine callsIn_of_wp_marks Tryz.func27 rfl trivial ?_ rfl
  simp only [Tryz.ntmps27, List.size_toArray, List.length_cons, List.length_nil, Nat.reduceAdd, Nat.reduceSub, Array.replicate_succ, Array.replicate_zero, List.push_toArray, List.append_toArray, List.nil_append, List.cons_append]
  obtain ⟨W3, hW3⟩ : ∃ W3, W3 = ((w.alloc (.cells #[.pointer px] 29)).alloc (.cells #[.int .i64 0] 3)).alloc (.cells #[.int .i64 0] 3) := ⟨_, rfl⟩
  have hb3 : Below w.heap.size w W3 := by rw [hW3]; exact (((Below.refl _ _).alloc (Nat.le_refl _) _).alloc (by simp) _).alloc (by simp <;> omega) _
  have hz3 : W3.heap.size = w.heap.size + 3 := by rw [hW3]; simp
  have hI3 : PI w px s N [] (fun k => k = w.heap.size + 1 ∨ k = w.heap.size + 2) W3 0 := by
    rw [hW3]
    refine ⟨?_, ?_, ?_, .inl rfl, .inr rfl, by rw [← hW3]; exact hb3, by omega, rfl⟩
    · exact ((bal _).block w.heap.size (by simp only [World.size_alloc]; omega)).trans (((bal _).block w.heap.size (by simp only [World.size_alloc]; omega)).trans (heap_alloc_new w _))
    · have := heap_alloc_new (w.alloc (.cells #[.pointer px] 29)) (.cells #[.int .i64 0] 3)
      rw [World.size_alloc] at this
      exact ((bal _).block (w.heap.size + 1) (by simp only [World.size_alloc]; omega)).trans this
    · have := heap_alloc_new ((w.alloc (.cells #[.pointer px] 29)).alloc (.cells #[.int .i64 0] 3)) (.cells #[.int .i64 0] 3)
      rw [World.size_alloc, World.size_alloc] at this
      exact this
  have HI3 := Lib.hid hI3
  have HA3 := Lib.hid (HALL.out W3 hb3 (fun k => k = w.heap.size + 1 ∨ k = w.heap.size + 2) (fun k hk => by omega))
  clear hI3 HALL
  gi_wp2
  rw [← hW3]
  clear hW3
  refine ⟨trivial, ?_⟩
  refine (callsIn_wide.2 HA3.out).mono ?_
  rintro e w9 ⟨lb, rfl, hseq, h9⟩
  have HSEQ := Lib.hid hseq
  have hz9 := h9.size
  have HI9 : Hid (PIx w px s N [] (fun k => k = w.heap.size + 1 ∨ k = w.heap.size + 2) w9) := Lib.hid ⟨0, (h9.block _ (by omega)).trans HI3.out.xb, (h9.block _ (by omega)).trans HI3.out.zb, (h9.block _ (by omega)).trans HI3.out.ab, .inl rfl, .inr rfl, hb3.trans (h9.mono hb3.size), by omega, rfl⟩
  have hz : w.heap.size + 2 < w9.heap.size := by omega
  clear hseq h9 hz9 hb3 hz3 HI3 HA3
  gi_wp2
  refine wpIn_rangeBoxP (fun (b : Nat) (y : Nd) (t : Array Value) => (t.setIfInBounds 10 (rcV y.2)).setIfInBounds 6 (.pointer (some ⟨b, 0, none⟩))) (gf := 112) (lb := lb) (L := N) (A := fun k => k = w.heap.size + 1 ∨ k = w.heap.size + 2) (w0 := w9) (encs := recE) rfl eg_rec HSEQ.out (Below.refl _ _) (fun _ => rfl)
    (PIx w px s N) (PIz w s N) (fun k => k = w.heap.size + 1 ∨ k = w.heap.size + 2) ?hc0 (pi_bears hz) (piz_bears hz) HI9.out (PIb w9.heap.size) (pib_bears) ?assign ?body ?done ?stop
  case hc0 =>
    intro k hk
    exact ⟨.inl hk, by omega⟩
  case assign =>
    rintro l' pre y C X K ⟨a, hI⟩ hp hc hzX hK
    have b1 := bal (w := X) (rcB y.2)
    have HK := Lib.hid (hK X.heap.size (fun k => C k ∨ k = X.heap.size) _ ⟨Steps.of_below b1 _, fun k hk => by rcases hk with hk | rfl; exact .inl hk; exact .inr ⟨Nat.le_refl _, by simp⟩⟩
      ⟨a, (b1.block _ (lt_of_block hI.xb)).trans hI.xb, (b1.block _ (lt_of_block hI.zb)).trans hI.zb, (b1.block _ (lt_of_block hI.ab)).trans hI.ab, .inl hI.c1, .inl hI.c2, hI.below.trans (b1.mono hI.below.size), hI.bd, hI.eq⟩ ⟨heap_alloc_new X _, hzX, .inr rfl⟩)
    clear hK hI hp hc b1
    gi_wp2
    exact HK.out
  case body =>
    rintro l' pre y b C X ⟨a, hI⟩ ⟨hyb, hbz, hcb⟩ hp hcc hzX
    obtain ⟨o1, o2⟩ := HOUT.out y (mem_at hp)
    obtain ⟨m1, m2⟩ := HBD.out y.2
    have hdr := drop_at hp
    have ha := hI.bd
    generalize hr : y.2 = r at *
    have HFR := Lib.hid (fun W => sp.from_any (r.f, r.t) s.una W)
    have HLN := Lib.hid (fun W => len_any (fromP (r.f, r.t) s.una) W)
    have HWI := Lib.hid (HWIA.out (r.f, r.t))
    have HUN := Lib.hid HUNA.out
    have heq : lenI (fromP (r.f, r.t) s.una) - withinL s.l (r.f, r.t) = missR s r := rfl
    have hmw0 : IntKind.i64.wrap (lenI (fromP (r.f, r.t) s.una) - withinL s.l (r.f, r.t)) = missR s r := by rw [heq]; exact IntWalk.i64_in _ (by omega)
    have hEQ : ∀ _ : Int, pipeF s (N.map (·.2)) 0 = if 0 < missR s r ∧ (9223372036854775807 - a).tdiv (missR s r) < r.out then 9223372036854775807 else pipeF s ((N.drop (pre ++ [y]).length).map (·.2)) (a + r.out * missR s r) := fun _ => by
      rw [hI.eq, hdr, List.map_cons, hr]; rfl
    clear heq hdr
    generalize missR s r = m at *
    generalize lenI (fromP (r.f, r.t) s.una) = q1 at *
    generalize withinL s.l (r.f, r.t) = q2 at *
    generalize fromP (r.f, r.t) s.una = fr at *
    have HPB := Lib.hid (fun (h : ¬ (0 < m ∧ (9223372036854775807 - a).tdiv m < r.out)) => pipe_bd (o := r.out) ha m1 o1 h)
    have P0 : PX w X px a b r X.drew := PX.later (X := X) ⟨hyb, hI.xb, hI.zb, hI.ab, hI.below, by omega, Below.refl _ _⟩ (Below.refl _ _).drew
    have hHeld : S3r w.heap.size b r px X.drew := P0.s3
    generalize hRP : rPost (PIx w px s N) (PIz w s N) (pre ++ [y]) C X = RP at *
    have HNX := Lib.hid (fun (hno : ¬ (0 < m ∧ (9223372036854775807 - a).tdiv m < r.out)) (V : World) (hV : PX w X px a b r V) => show ∀ a' : Act, RP .normal a' (V.setCell ⟨w.heap.size + 2, 0, none⟩ (.int .i64 (a + r.out * m))) from fun a' => by
      rw [← hRP]
      have hk : Kept [w.heap.size + 2] V (V.setCell ⟨w.heap.size + 2, 0, none⟩ (.int .i64 (a + r.out * m))) := (Kept.refl _ V).setCell (.inl (by simp)) _
      have he := hEQ 0
      rw [if_neg hno] at he
      exact ⟨C, (Round.of_below hV.bx C).trans (Round.of_kept hk (fun k hk' => by simp at hk'; subst hk'; exact hI.c2)), a + r.out * m, hk.heap (by simp) hV.xb, hk.heap (by simp) hV.zb, (heap_setCell_same V _ 0 _ _ _ hV.ab).trans rfl, hI.c1, hI.c2, hV.below.trans (hk.below (by simp) hV.below.size), by have := HPB.out hno; omega, he⟩)
    have HSX := Lib.hid (fun (h1 : 0 < m) (h2 : (9223372036854775807 - a).tdiv m < r.out) (V : World) (hV : PX w X px a b r V) => show ∀ a' : Act, RP .ret a' (V.setCell ⟨w.heap.size + 1, 0, none⟩ (.int .i64 9223372036854775807)) from fun a' => by
      rw [← hRP]
      have hk : Kept [w.heap.size + 1] V (V.setCell ⟨w.heap.size + 1, 0, none⟩ (.int .i64 9223372036854775807)) := (Kept.refl _ V).setCell (.inl (by simp)) _
      have he := hEQ 0
      rw [if_pos ⟨h1, h2⟩] at he
      exact ⟨C, (Round.of_below hV.bx C).trans (Round.of_kept hk (fun k hk' => by simp at hk'; subst hk'; exact hI.c1)), rfl, (heap_setCell_same V _ 0 _ _ _ hV.zb).trans rfl, hI.c1, hV.below.trans (hk.below (by simp) hV.below.size), he⟩)
    clear hyb hI hp hcc hzX hEQ HSEQ HI9 hRP m1 m2 o1 HBD HOUT
    simp only [List.setIfInBounds_toArray, List.set_cons_zero, List.set_cons_succ]
    gi_wp2
    refine wpIn_region_inR (S := (fun w' => S3r w.heap.size b r px w')) hMO (by kernel_rfl) ?_
    refine wpAnyH_take (i := 0) (oi := _) (v := ?_) rfl (by kernel_rfl) (by kernel_rfl) (by kernel_rfl) (fun _ _ _ h => h) (Or.inl ⟨by kernel_rfl, ?_⟩) (by assumption) ?_
    rotate_left
    · (first | (intro v hSw; (try dsimp only at hSw); go_simp; done) | (intro v hSw; (try dsimp only at hSw); go_simp; with_reducible rfl))
    (try simp only [List.getElem_toArray, List.getElem_cons_succ, List.getElem_cons_zero, Act.put, List.setIfInBounds_toArray, List.set_cons_zero, List.set_cons_succ])
    refine wpAnyH_take (i := 1) (oi := _) (v := ?_) rfl (by kernel_rfl) (by kernel_rfl) (by kernel_rfl) (fun _ _ _ h => h) (Or.inl ⟨by kernel_rfl, ?_⟩) (by assumption) ?_
    rotate_left
    · (first | (intro v hSw; (try dsimp only at hSw); go_simp; done) | (intro v hSw; (try dsimp only at hSw); go_simp; with_reducible rfl))
    (try simp only [List.getElem_toArray, List.getElem_cons_succ, List.getElem_cons_zero, Act.put, List.setIfInBounds_toArray, List.set_cons_zero, List.set_cons_succ])
    refine wpAnyH_take (i := 2) (oi := _) (v := ?_) rfl (by kernel_rfl) (by kernel_rfl) (by kernel_rfl) (fun _ _ _ h => h) (Or.inl ⟨by kernel_rfl, ?_⟩) (by assumption) ?_
    rotate_left
    · (first | (intro v hSw; (try dsimp only at hSw); go_simp; done) | (intro v hSw; (try dsimp only at hSw); go_simp; with_reducible rfl))
    (try simp only [List.getElem_toArray, List.getElem_cons_succ, List.getElem_cons_zero, Act.put, List.setIfInBounds_toArray, List.set_cons_zero, List.set_cons_succ])
    refine wpAnyH_take (i := 6) (oi := _) (v := ?_) rfl (by kernel_rfl) (by kernel_rfl) (by kernel_rfl) (fun _ _ _ h => h) (Or.inl ⟨by kernel_rfl, ?_⟩) (by assumption) ?_
    rotate_left
    · (first | (intro v hSw; (try dsimp only at hSw); go_simp; done) | (intro v hSw; (try dsimp only at hSw); go_simp; with_reducible rfl))
    (try simp only [List.getElem_toArray, List.getElem_cons_succ, List.getElem_cons_zero, Act.put, List.setIfInBounds_toArray, List.set_cons_zero, List.set_cons_succ])
    refine wpAnyH_take (i := 7) (oi := _) (v := ?_) rfl (by kernel_rfl) (by kernel_rfl) (by kernel_rfl) (fun _ _ _ h => h) (Or.inl ⟨by kernel_rfl, ?_⟩) (by assumption) ?_
    rotate_left
    · (first | (intro v hSw; (try dsimp only at hSw); go_simp; done) | (intro v hSw; (try dsimp only at hSw); go_simp; with_reducible rfl))
    (try simp only [List.getElem_toArray, List.getElem_cons_succ, List.getElem_cons_zero, Act.put, List.setIfInBounds_toArray, List.set_cons_zero, List.set_cons_succ])
    refine wpAnyH_take (i := 8) (oi := _) (v := ?_) rfl (by kernel_rfl) (by kernel_rfl) (by kernel_rfl) (fun _ _ _ h => h) (Or.inl ⟨by kernel_rfl, ?_⟩) (by assumption) ?_
    rotate_left
    · (first | (intro v hSw; (try dsimp only at hSw); go_simp; done) | (intro v hSw; (try dsimp only at hSw); go_simp; with_reducible rfl))
    (try simp only [List.getElem_toArray, List.getElem_cons_succ, List.getElem_cons_zero, Act.put, List.setIfInBounds_toArray, List.set_cons_zero, List.set_cons_succ])
    refine wpAnyH_ready (rs := [3]) (by kernel_rfl) (by simp) ?_
    refine AllReadyH.cons (o := _) rfl (fun K hK => ?_) AllReadyH.nil
    go_simp
    (with_reducible refine (HUN.out _ P0.below).mono ?_)
    rintro e v3 ⟨rfl, rfl⟩
    refine hK.out _ _ ?_ (fun hHeld => ?_)
    · ((try dsimp only); exact hHeld)
    clear hK K
    (try simp only [List.getElem_toArray, List.getElem_cons_succ, List.getElem_cons_zero, Act.put, List.setIfInBounds_toArray, List.set_cons_zero, List.set_cons_succ])
    refine wpAnyH_ready (rs := [4]) (by kernel_rfl) (by simp) ?_
    refine AllReadyH.cons (o := _) rfl (fun K hK => ?_) AllReadyH.nil
    go_simp
    (with_reducible refine (HFR.out _).mono ?_)
    rintro e v4 ⟨rfl, h4⟩
    have P1 := P0.later h4
    clear P0 h4 hHeld
    refine hK.out _ _ ?_ (fun hHeld => ?_)
    · ((try dsimp only); exact P1.s3)
    clear hK K
    (try simp only [List.getElem_toArray, List.getElem_cons_succ, List.getElem_cons_zero, Act.put, List.setIfInBounds_toArray, List.set_cons_zero, List.set_cons_succ])
    refine wpAnyH_ready (rs := [5]) (by kernel_rfl) (by simp) ?_
    refine AllReadyH.cons (o := _) rfl (fun K hK => ?_) AllReadyH.nil
    go_simp
    (with_reducible refine (HLN.out _).mono ?_)
    rintro e v5 ⟨rfl, h5⟩
    have P2 := P1.later h5
    clear P1 h5 hHeld
    refine hK.out _ _ ?_ (fun hHeld => ?_)
    · ((try dsimp only); exact P2.s3)
    clear hK K
    (try simp only [List.getElem_toArray, List.getElem_cons_succ, List.getElem_cons_zero, Act.put, List.setIfInBounds_toArray, List.set_cons_zero, List.set_cons_succ])
    refine wpAnyH_ready (rs := [9]) (by kernel_rfl) (by simp) ?_
    refine AllReadyH.cons (o := _) rfl (fun K hK => ?_) AllReadyH.nil
    go_simp
    (with_reducible refine (HWI.out _ P2.below).mono ?_)
    rintro e v6 ⟨rfl, h6⟩
    have P3 := P2.later h6
    clear P2 h6 hHeld
    refine hK.out _ _ ?_ (fun hHeld => ?_)
    · ((try dsimp only); exact P3.s3)
    clear hK K
    (try simp only [List.getElem_toArray, List.getElem_cons_succ, List.getElem_cons_zero, Act.put, List.setIfInBounds_toArray, List.set_cons_zero, List.set_cons_succ])
    refine wpAnyH_take (i := 10) (oi := _) (v := ?_) rfl (by kernel_rfl) (by kernel_rfl) (by kernel_rfl) (fun _ _ _ h => h) (Or.inl ⟨by kernel_rfl, ?_⟩) (by assumption) ?_
    rotate_left
    · (first | (intro v hSw; (try dsimp only at hSw); go_simp; done) | (intro v hSw; (try dsimp only at hSw); go_simp; with_reducible rfl))
    (try simp only [List.getElem_toArray, List.getElem_cons_succ, List.getElem_cons_zero, Act.put, List.setIfInBounds_toArray, List.set_cons_zero, List.set_cons_succ])
    refine wpAnyH_take (i := 11) (oi := _) (v := ?_) rfl (by kernel_rfl) (by kernel_rfl) (by kernel_rfl) (fun _ _ _ h => h) (Or.inl ⟨by kernel_rfl, ?_⟩) (by assumption) ?_
    rotate_left
    · (first | (intro v hSw; (try dsimp only at hSw); go_simp; done) | (intro v hSw; (try dsimp only at hSw); go_simp; with_reducible rfl))
    (try simp only [List.getElem_toArray, List.getElem_cons_succ, List.getElem_cons_zero, Act.put, List.setIfInBounds_toArray, List.set_cons_zero, List.set_cons_succ])
    refine wpAnyH_done (by kernel_rfl) ?_ _
    refine OnlyN.normal ?_
    have P := P3
    clear P3 hHeld HUN HFR HLN HWI
    generalize v6 = V at *
    by_cases hm : 0 < m
    · obtain ⟨t1, t2⟩ := tdiv_bd (a := a) ha hm
      have hne : ¬ m = 0 := by omega
      have hsb : IntKind.i64.wrap (9223372036854775807 - a) = 9223372036854775807 - a := IntWalk.i64_in _ (by omega)
      have hqw : IntKind.i64.wrap ((9223372036854775807 - a).tdiv m) = (9223372036854775807 - a).tdiv m := IntWalk.i64_in _ (by omega)
      have hmd : decide (0 < m) = true := decide_eq_true hm
      clear t1 t2
      by_cases hq : (9223372036854775807 - a).tdiv m < r.out
      · have hqd := decide_eq_true hq
        have HS := Lib.hid (HSX.out hm hq)
        clear HNX HSX
        have PD := P.later (Below.refl _ _).drew
        have hHeld : (fun w' => w'.cell? ⟨b, 5, none⟩ = some (.int .i64 r.out) ∧ w'.cell? ⟨w.heap.size + 2, 0, none⟩ = some (.int .i64 a)) V.drew := ⟨PD.s6, PD.s7⟩
        clear P
        gi_wp2
        refine wpIn_region_inR (S := (fun w' => w'.cell? ⟨b, 5, none⟩ = some (.int .i64 r.out) ∧ w'.cell? ⟨w.heap.size + 2, 0, none⟩ = some (.int .i64 a))) hMO (by kernel_rfl) ?_
        refine wpAnyH_take (i := 0) (oi := _) (v := ?_) rfl (by kernel_rfl) (by kernel_rfl) (by kernel_rfl) (fun _ _ _ h => h) (Or.inl ⟨by kernel_rfl, ?_⟩) (by assumption) ?_
        rotate_left
        · (first | (intro v hSw; (try dsimp only at hSw); go_simp; done) | (intro v hSw; (try dsimp only at hSw); go_simp; with_reducible rfl))
        (try simp only [List.getElem_toArray, List.getElem_cons_succ, List.getElem_cons_zero, Act.put, List.setIfInBounds_toArray, List.set_cons_zero, List.set_cons_succ])
        refine wpAnyH_take (i := 1) (oi := _) (v := ?_) rfl (by kernel_rfl) (by kernel_rfl) (by kernel_rfl) (fun _ _ _ h => h) (Or.inl ⟨by kernel_rfl, ?_⟩) (by assumption) ?_
        rotate_left
        · (first | (intro v hSw; (try dsimp only at hSw); go_simp; done) | (intro v hSw; (try dsimp only at hSw); go_simp; with_reducible rfl))
        (try simp only [List.getElem_toArray, List.getElem_cons_succ, List.getElem_cons_zero, Act.put, List.setIfInBounds_toArray, List.set_cons_zero, List.set_cons_succ])
        refine wpAnyH_take (i := 2) (oi := _) (v := ?_) rfl (by kernel_rfl) (by kernel_rfl) (by kernel_rfl) (fun _ _ _ h => h) (Or.inl ⟨by kernel_rfl, ?_⟩) (by assumption) ?_
        rotate_left
        · (first | (intro v hSw; (try dsimp only at hSw); go_simp; done) | (intro v hSw; (try dsimp only at hSw); go_simp; with_reducible rfl))
        (try simp only [List.getElem_toArray, List.getElem_cons_succ, List.getElem_cons_zero, Act.put, List.setIfInBounds_toArray, List.set_cons_zero, List.set_cons_succ])
        refine wpAnyH_take (i := 3) (oi := _) (v := ?_) rfl (by kernel_rfl) (by kernel_rfl) (by kernel_rfl) (fun _ _ _ h => h) (Or.inl ⟨by kernel_rfl, ?_⟩) (by assumption) ?_
        rotate_left
        · (first | (intro v hSw; (try dsimp only at hSw); go_simp; done) | (intro v hSw; (try dsimp only at hSw); go_simp; with_reducible rfl))
        (try simp only [List.getElem_toArray, List.getElem_cons_succ, List.getElem_cons_zero, Act.put, List.setIfInBounds_toArray, List.set_cons_zero, List.set_cons_succ])
        refine wpAnyH_take (i := 4) (oi := _) (v := ?_) rfl (by kernel_rfl) (by kernel_rfl) (by kernel_rfl) (fun _ _ _ h => h) (Or.inl ⟨by kernel_rfl, ?_⟩) (by assumption) ?_
        rotate_left
        · (first | (intro v hSw; (try dsimp only at hSw); go_simp; done) | (intro v hSw; (try dsimp only at hSw); go_simp; with_reducible rfl))
        (try simp only [List.getElem_toArray, List.getElem_cons_succ, List.getElem_cons_zero, Act.put, List.setIfInBounds_toArray, List.set_cons_zero, List.set_cons_succ])
        refine wpAnyH_take (i := 5) (oi := _) (v := ?_) rfl (by kernel_rfl) (by kernel_rfl) (by kernel_rfl) (fun _ _ _ h => h) (Or.inl ⟨by kernel_rfl, ?_⟩) (by assumption) ?_
        rotate_left
        · (first | (intro v hSw; (try dsimp only at hSw); go_simp; done) | (intro v hSw; (try dsimp only at hSw); go_simp; with_reducible rfl))
        (try simp only [List.getElem_toArray, List.getElem_cons_succ, List.getElem_cons_zero, Act.put, List.setIfInBounds_toArray, List.set_cons_zero, List.set_cons_succ])
        refine wpAnyH_take (i := 6) (oi := _) (v := ?_) rfl (by kernel_rfl) (by kernel_rfl) (by kernel_rfl) (fun _ _ _ h => h) (Or.inl ⟨by kernel_rfl, ?_⟩) (by assumption) ?_
        rotate_left
        · (first | (intro v hSw; (try dsimp only at hSw); go_simp; done) | (intro v hSw; (try dsimp only at hSw); go_simp; with_reducible rfl))
        (try simp only [List.getElem_toArray, List.getElem_cons_succ, List.getElem_cons_zero, Act.put, List.setIfInBounds_toArray, List.set_cons_zero, List.set_cons_succ])
        refine wpAnyH_take (i := 7) (oi := _) (v := ?_) rfl (by kernel_rfl) (by kernel_rfl) (by kernel_rfl) (fun _ _ _ h => h) (Or.inl ⟨by kernel_rfl, ?_⟩) (by assumption) ?_
        rotate_left
        · (first | (intro v hSw; (try dsimp only at hSw); go_simp; done) | (intro v hSw; (try dsimp only at hSw); go_simp; with_reducible rfl))
        (try simp only [List.getElem_toArray, List.getElem_cons_succ, List.getElem_cons_zero, Act.put, List.setIfInBounds_toArray, List.set_cons_zero, List.set_cons_succ])
        refine wpAnyH_take (i := 8) (oi := _) (v := ?_) rfl (by kernel_rfl) (by kernel_rfl) (by kernel_rfl) (fun _ _ _ h => h) (Or.inl ⟨by kernel_rfl, ?_⟩) (by assumption) ?_
        rotate_left
        · (first | (intro v hSw; (try dsimp only at hSw); go_simp; done) | (intro v hSw; (try dsimp only at hSw); go_simp; with_reducible rfl))
        (try simp only [List.getElem_toArray, List.getElem_cons_succ, List.getElem_cons_zero, Act.put, List.setIfInBounds_toArray, List.set_cons_zero, List.set_cons_succ])
        refine wpAnyH_take (i := 9) (oi := _) (v := ?_) rfl (by kernel_rfl) (by kernel_rfl) (by kernel_rfl) (fun _ _ _ h => h) (Or.inl ⟨by kernel_rfl, ?_⟩) (by assumption) ?_
        rotate_left
        · (first | (intro v hSw; (try dsimp only at hSw); go_simp; done) | (intro v hSw; (try dsimp only at hSw); go_simp; with_reducible rfl))
        (try simp only [List.getElem_toArray, List.getElem_cons_succ, List.getElem_cons_zero, Act.put, List.setIfInBounds_toArray, List.set_cons_zero, List.set_cons_succ])
        refine wpAnyH_take (i := 10) (oi := _) (v := ?_) rfl (by kernel_rfl) (by kernel_rfl) (by kernel_rfl) (fun _ _ _ h => h) (Or.inl ⟨by kernel_rfl, ?_⟩) (by assumption) ?_
        rotate_left
        · (first | (intro v hSw; (try dsimp only at hSw); go_simp; done) | (intro v hSw; (try dsimp only at hSw); go_simp; with_reducible rfl))
        (try simp only [List.getElem_toArray, List.getElem_cons_succ, List.getElem_cons_zero, Act.put, List.setIfInBounds_toArray, List.set_cons_zero, List.set_cons_succ])
        refine wpAnyH_done (by kernel_rfl) ?_ _
        refine OnlyN.normal ?_
        clear hHeld
        generalize V.drew = V2 at *
        have g6 := PD.s6; have g7 := PD.s7; have g8 := PD.f7; have g9 := PD.s9; have g10 := PD.f9
        have HE := Lib.hid (HS.out _ PD)
        clear PD
        gi_wp2
        exact HE.out _
      · have hqd := decide_eq_false hq
        have HN := Lib.hid (HNX.out (fun h => hq h.2))
        obtain ⟨p1, p2⟩ := HPB.out (fun h => hq h.2)
        have hmw : IntKind.i64.wrap (r.out * m) = r.out * m := IntWalk.i64_in _ (by omega)
        have haw : IntKind.i64.wrap (a + r.out * m) = a + r.out * m := IntWalk.i64_in _ (by omega)
        clear HNX HSX p1 p2 HPB
        have PD := P.later (Below.refl _ _).drew
        have hHeld : (fun w' => w'.cell? ⟨b, 5, none⟩ = some (.int .i64 r.out) ∧ w'.cell? ⟨w.heap.size + 2, 0, none⟩ = some (.int .i64 a)) V.drew := ⟨PD.s6, PD.s7⟩
        clear P
        gi_wp2
        refine wpIn_region_inR (S := (fun w' => w'.cell? ⟨b, 5, none⟩ = some (.int .i64 r.out) ∧ w'.cell? ⟨w.heap.size + 2, 0, none⟩ = some (.int .i64 a))) hMO (by kernel_rfl) ?_
        refine wpAnyH_take (i := 0) (oi := _) (v := ?_) rfl (by kernel_rfl) (by kernel_rfl) (by kernel_rfl) (fun _ _ _ h => h) (Or.inl ⟨by kernel_rfl, ?_⟩) (by assumption) ?_
        rotate_left
        · (first | (intro v hSw; (try dsimp only at hSw); go_simp; done) | (intro v hSw; (try dsimp only at hSw); go_simp; with_reducible rfl))
        (try simp only [List.getElem_toArray, List.getElem_cons_succ, List.getElem_cons_zero, Act.put, List.setIfInBounds_toArray, List.set_cons_zero, List.set_cons_succ])
        refine wpAnyH_take (i := 1) (oi := _) (v := ?_) rfl (by kernel_rfl) (by kernel_rfl) (by kernel_rfl) (fun _ _ _ h => h) (Or.inl ⟨by kernel_rfl, ?_⟩) (by assumption) ?_
        rotate_left
        · (first | (intro v hSw; (try dsimp only at hSw); go_simp; done) | (intro v hSw; (try dsimp only at hSw); go_simp; with_reducible rfl))
        (try simp only [List.getElem_toArray, List.getElem_cons_succ, List.getElem_cons_zero, Act.put, List.setIfInBounds_toArray, List.set_cons_zero, List.set_cons_succ])
        refine wpAnyH_take (i := 2) (oi := _) (v := ?_) rfl (by kernel_rfl) (by kernel_rfl) (by kernel_rfl) (fun _ _ _ h => h) (Or.inl ⟨by kernel_rfl, ?_⟩) (by assumption) ?_
        rotate_left
        · (first | (intro v hSw; (try dsimp only at hSw); go_simp; done) | (intro v hSw; (try dsimp only at hSw); go_simp; with_reducible rfl))
        (try simp only [List.getElem_toArray, List.getElem_cons_succ, List.getElem_cons_zero, Act.put, List.setIfInBounds_toArray, List.set_cons_zero, List.set_cons_succ])
        refine wpAnyH_take (i := 3) (oi := _) (v := ?_) rfl (by kernel_rfl) (by kernel_rfl) (by kernel_rfl) (fun _ _ _ h => h) (Or.inl ⟨by kernel_rfl, ?_⟩) (by assumption) ?_
        rotate_left
        · (first | (intro v hSw; (try dsimp only at hSw); go_simp; done) | (intro v hSw; (try dsimp only at hSw); go_simp; with_reducible rfl))
        (try simp only [List.getElem_toArray, List.getElem_cons_succ, List.getElem_cons_zero, Act.put, List.setIfInBounds_toArray, List.set_cons_zero, List.set_cons_succ])
        refine wpAnyH_take (i := 4) (oi := _) (v := ?_) rfl (by kernel_rfl) (by kernel_rfl) (by kernel_rfl) (fun _ _ _ h => h) (Or.inl ⟨by kernel_rfl, ?_⟩) (by assumption) ?_
        rotate_left
        · (first | (intro v hSw; (try dsimp only at hSw); go_simp; done) | (intro v hSw; (try dsimp only at hSw); go_simp; with_reducible rfl))
        (try simp only [List.getElem_toArray, List.getElem_cons_succ, List.getElem_cons_zero, Act.put, List.setIfInBounds_toArray, List.set_cons_zero, List.set_cons_succ])
        refine wpAnyH_take (i := 5) (oi := _) (v := ?_) rfl (by kernel_rfl) (by kernel_rfl) (by kernel_rfl) (fun _ _ _ h => h) (Or.inl ⟨by kernel_rfl, ?_⟩) (by assumption) ?_
        rotate_left
        · (first | (intro v hSw; (try dsimp only at hSw); go_simp; done) | (intro v hSw; (try dsimp only at hSw); go_simp; with_reducible rfl))
        (try simp only [List.getElem_toArray, List.getElem_cons_succ, List.getElem_cons_zero, Act.put, List.setIfInBounds_toArray, List.set_cons_zero, List.set_cons_succ])
        refine wpAnyH_take (i := 6) (oi := _) (v := ?_) rfl (by kernel_rfl) (by kernel_rfl) (by kernel_rfl) (fun _ _ _ h => h) (Or.inl ⟨by kernel_rfl, ?_⟩) (by assumption) ?_
        rotate_left
        · (first | (intro v hSw; (try dsimp only at hSw); go_simp; done) | (intro v hSw; (try dsimp only at hSw); go_simp; with_reducible rfl))
        (try simp only [List.getElem_toArray, List.getElem_cons_succ, List.getElem_cons_zero, Act.put, List.setIfInBounds_toArray, List.set_cons_zero, List.set_cons_succ])
        refine wpAnyH_take (i := 7) (oi := _) (v := ?_) rfl (by kernel_rfl) (by kernel_rfl) (by kernel_rfl) (fun _ _ _ h => h) (Or.inl ⟨by kernel_rfl, ?_⟩) (by assumption) ?_
        rotate_left
        · (first | (intro v hSw; (try dsimp only at hSw); go_simp; done) | (intro v hSw; (try dsimp only at hSw); go_simp; with_reducible rfl))
        (try simp only [List.getElem_toArray, List.getElem_cons_succ, List.getElem_cons_zero, Act.put, List.setIfInBounds_toArray, List.set_cons_zero, List.set_cons_succ])
        refine wpAnyH_take (i := 8) (oi := _) (v := ?_) rfl (by kernel_rfl) (by kernel_rfl) (by kernel_rfl) (fun _ _ _ h => h) (Or.inl ⟨by kernel_rfl, ?_⟩) (by assumption) ?_
        rotate_left
        · (first | (intro v hSw; (try dsimp only at hSw); go_simp; done) | (intro v hSw; (try dsimp only at hSw); go_simp; with_reducible rfl))
        (try simp only [List.getElem_toArray, List.getElem_cons_succ, List.getElem_cons_zero, Act.put, List.setIfInBounds_toArray, List.set_cons_zero, List.set_cons_succ])
        refine wpAnyH_take (i := 9) (oi := _) (v := ?_) rfl (by kernel_rfl) (by kernel_rfl) (by kernel_rfl) (fun _ _ _ h => h) (Or.inl ⟨by kernel_rfl, ?_⟩) (by assumption) ?_
        rotate_left
        · (first | (intro v hSw; (try dsimp only at hSw); go_simp; done) | (intro v hSw; (try dsimp only at hSw); go_simp; with_reducible rfl))
        (try simp only [List.getElem_toArray, List.getElem_cons_succ, List.getElem_cons_zero, Act.put, List.setIfInBounds_toArray, List.set_cons_zero, List.set_cons_succ])
        refine wpAnyH_take (i := 10) (oi := _) (v := ?_) rfl (by kernel_rfl) (by kernel_rfl) (by kernel_rfl) (fun _ _ _ h => h) (Or.inl ⟨by kernel_rfl, ?_⟩) (by assumption) ?_
        rotate_left
        · (first | (intro v hSw; (try dsimp only at hSw); go_simp; done) | (intro v hSw; (try dsimp only at hSw); go_simp; with_reducible rfl))
        (try simp only [List.getElem_toArray, List.getElem_cons_succ, List.getElem_cons_zero, Act.put, List.setIfInBounds_toArray, List.set_cons_zero, List.set_cons_succ])
        refine wpAnyH_done (by kernel_rfl) ?_ _
        refine OnlyN.normal ?_
        clear hHeld
        generalize V.drew = V2 at *
        have g6 := PD.s6; have g7 := PD.s7; have g8 := PD.f7; have g9 := PD.s9; have g10 := PD.f9
        have HE := Lib.hid (HN.out _ PD)
        clear PD
        gi_wp2
        exact HE.out _
    · have hmd : decide (0 < m) = false := decide_eq_false hm
      have HN := Lib.hid (HNX.out (fun h => hm h.1))
      obtain ⟨p1, p2⟩ := HPB.out (fun h => hm h.1)
      have hmw : IntKind.i64.wrap (r.out * m) = r.out * m := IntWalk.i64_in _ (by omega)
      have haw : IntKind.i64.wrap (a + r.out * m) = a + r.out * m := IntWalk.i64_in _ (by omega)
      clear HNX HSX p1 p2 HPB
      have PD := P.later (Below.refl _ _).drew
      have hHeld : (fun w' => w'.cell? ⟨b, 5, none⟩ = some (.int .i64 r.out) ∧ w'.cell? ⟨w.heap.size + 2, 0, none⟩ = some (.int .i64 a)) V.drew := ⟨PD.s6, PD.s7⟩
      clear P
      gi_wp2
      refine wpIn_region_inR (S := (fun w' => w'.cell? ⟨b, 5, none⟩ = some (.int .i64 r.out) ∧ w'.cell? ⟨w.heap.size + 2, 0, none⟩ = some (.int .i64 a))) hMO (by kernel_rfl) ?_
      refine wpAnyH_take (i := 0) (oi := _) (v := ?_) rfl (by kernel_rfl) (by kernel_rfl) (by kernel_rfl) (fun _ _ _ h => h) (Or.inl ⟨by kernel_rfl, ?_⟩) (by assumption) ?_
      rotate_left
      · (first | (intro v hSw; (try dsimp only at hSw); go_simp; done) | (intro v hSw; (try dsimp only at hSw); go_simp; with_reducible rfl))
      (try simp only [List.getElem_toArray, List.getElem_cons_succ, List.getElem_cons_zero, Act.put, List.setIfInBounds_toArray, List.set_cons_zero, List.set_cons_succ])
      refine wpAnyH_take (i := 1) (oi := _) (v := ?_) rfl (by kernel_rfl) (by kernel_rfl) (by kernel_rfl) (fun _ _ _ h => h) (Or.inl ⟨by kernel_rfl, ?_⟩) (by assumption) ?_
      rotate_left
      · (first | (intro v hSw; (try dsimp only at hSw); go_simp; done) | (intro v hSw; (try dsimp only at hSw); go_simp; with_reducible rfl))
      (try simp only [List.getElem_toArray, List.getElem_cons_succ, List.getElem_cons_zero, Act.put, List.setIfInBounds_toArray, List.set_cons_zero, List.set_cons_succ])
      refine wpAnyH_take (i := 2) (oi := _) (v := ?_) rfl (by kernel_rfl) (by kernel_rfl) (by kernel_rfl) (fun _ _ _ h => h) (Or.inl ⟨by kernel_rfl, ?_⟩) (by assumption) ?_
      rotate_left
      · (first | (intro v hSw; (try dsimp only at hSw); go_simp; done) | (intro v hSw; (try dsimp only at hSw); go_simp; with_reducible rfl))
      (try simp only [List.getElem_toArray, List.getElem_cons_succ, List.getElem_cons_zero, Act.put, List.setIfInBounds_toArray, List.set_cons_zero, List.set_cons_succ])
      refine wpAnyH_take (i := 3) (oi := _) (v := undef) rfl (by kernel_rfl) (by kernel_rfl) (by kernel_rfl) (fun _ _ _ h => h) (Or.inr ⟨by kernel_rfl, rfl⟩) (by assumption) ?_
      (try simp only [List.getElem_toArray, List.getElem_cons_succ, List.getElem_cons_zero, Act.put, List.setIfInBounds_toArray, List.set_cons_zero, List.set_cons_succ])
      refine wpAnyH_take (i := 4) (oi := _) (v := undef) rfl (by kernel_rfl) (by kernel_rfl) (by kernel_rfl) (fun _ _ _ h => h) (Or.inr ⟨by kernel_rfl, rfl⟩) (by assumption) ?_
      (try simp only [List.getElem_toArray, List.getElem_cons_succ, List.getElem_cons_zero, Act.put, List.setIfInBounds_toArray, List.set_cons_zero, List.set_cons_succ])
      refine wpAnyH_take (i := 5) (oi := _) (v := undef) rfl (by kernel_rfl) (by kernel_rfl) (by kernel_rfl) (fun _ _ _ h => h) (Or.inr ⟨by kernel_rfl, rfl⟩) (by assumption) ?_
      (try simp only [List.getElem_toArray, List.getElem_cons_succ, List.getElem_cons_zero, Act.put, List.setIfInBounds_toArray, List.set_cons_zero, List.set_cons_succ])
      refine wpAnyH_take (i := 6) (oi := _) (v := undef) rfl (by kernel_rfl) (by kernel_rfl) (by kernel_rfl) (fun _ _ _ h => h) (Or.inr ⟨by kernel_rfl, rfl⟩) (by assumption) ?_
      (try simp only [List.getElem_toArray, List.getElem_cons_succ, List.getElem_cons_zero, Act.put, List.setIfInBounds_toArray, List.set_cons_zero, List.set_cons_succ])
      refine wpAnyH_take (i := 7) (oi := _) (v := undef) rfl (by kernel_rfl) (by kernel_rfl) (by kernel_rfl) (fun _ _ _ h => h) (Or.inr ⟨by kernel_rfl, rfl⟩) (by assumption) ?_
      (try simp only [List.getElem_toArray, List.getElem_cons_succ, List.getElem_cons_zero, Act.put, List.setIfInBounds_toArray, List.set_cons_zero, List.set_cons_succ])
      refine wpAnyH_take (i := 8) (oi := _) (v := undef) rfl (by kernel_rfl) (by kernel_rfl) (by kernel_rfl) (fun _ _ _ h => h) (Or.inr ⟨by kernel_rfl, rfl⟩) (by assumption) ?_
      (try simp only [List.getElem_toArray, List.getElem_cons_succ, List.getElem_cons_zero, Act.put, List.setIfInBounds_toArray, List.set_cons_zero, List.set_cons_succ])
      refine wpAnyH_take (i := 9) (oi := _) (v := undef) rfl (by kernel_rfl) (by kernel_rfl) (by kernel_rfl) (fun _ _ _ h => h) (Or.inr ⟨by kernel_rfl, rfl⟩) (by assumption) ?_
      (try simp only [List.getElem_toArray, List.getElem_cons_succ, List.getElem_cons_zero, Act.put, List.setIfInBounds_toArray, List.set_cons_zero, List.set_cons_succ])
      refine wpAnyH_take (i := 10) (oi := _) (v := ?_) rfl (by kernel_rfl) (by kernel_rfl) (by kernel_rfl) (fun _ _ _ h => h) (Or.inl ⟨by kernel_rfl, ?_⟩) (by assumption) ?_
      rotate_left
      · (first | (intro v hSw; (try dsimp only at hSw); go_simp; done) | (intro v hSw; (try dsimp only at hSw); go_simp; with_reducible rfl))
      (try simp only [List.getElem_toArray, List.getElem_cons_succ, List.getElem_cons_zero, Act.put, List.setIfInBounds_toArray, List.set_cons_zero, List.set_cons_succ])
      refine wpAnyH_done (by kernel_rfl) ?_ _
      refine OnlyN.normal ?_
      clear hHeld
      generalize V.drew = V2 at *
      have g6 := PD.s6; have g7 := PD.s7; have g8 := PD.f7; have g9 := PD.s9; have g10 := PD.f9
      have HE := Lib.hid (HN.out _ PD)
      clear PD
      gi_wp2
      exact HE.out _
  case done =>
    rintro D C X hD hCD ⟨a, hI⟩ hK
    have hbD : w.heap.size + 2 < D := by omega
    have he := hI.eq
    rw [List.drop_length] at he
    have cA := cofr hI.ab 0 _ rfl
    have cZ := cofr hI.zb 0 _ rfl
    have fZ := fofr hI.zb 0
    have hk1 : Kept [w.heap.size + 1] X (X.setCell ⟨w.heap.size + 1, 0, none⟩ (.int .i64 a)) := (Kept.refl _ X).setCell (.inl (by simp)) _
    have hz1 : (X.setCell ⟨w.heap.size + 1, 0, none⟩ (.int .i64 a)).heap[w.heap.size + 1]? = some (.cells #[.int .i64 a] 3 (0, 0)) := (heap_setCell_same X _ 0 _ _ _ hI.zb).trans rfl
    have HK := Lib.hid (hk1.heap (by simp; omega) hK)
    have hbU := hI.below.trans (hk1.below (by simp) hI.below.size)
    have HE : Hid (pipeF s (N.map (·.2)) 0 = a) := Lib.hid he
    clear hI hK he hk1 HSEQ HI9 HBD HOUT HUNA HWIA
    gi_wp2
    generalize X.setCell ⟨w.heap.size + 1, 0, none⟩ (.int .i64 a) = U at *
    have hk2 : Kept [D] U (U.putObj D (.deferred none)) := ⟨rfl, rfl, rfl, by simp, fun k _ hk' => World.putObj_heap_other (by simpa using hk')⟩
    have y1 := cofr (hk2.heap (by simp; omega) hz1) 0 _ rfl
    have HB2 := Lib.hid (hbU.trans (hk2.below (by simp; omega) hbU.size))
    refine ⟨by simp, .inl ⟨_, _, rfl, run_takeDeferred HK.out, ?_⟩⟩
    exact ⟨.int .i64 a, by simp [results, Tryz.results27, go_sem, y1], by rw [HE.out]; exact ⟨rfl, HB2.out⟩⟩
  case stop =>
    rintro D c pre C X hD hCD ⟨rfl, h2, h3, h4, h5⟩ hK
    have hbD : w.heap.size + 2 < D := by omega
    have hk2 : Kept [D] X (X.putObj D (.deferred none)) := ⟨rfl, rfl, rfl, by simp, fun k _ hk' => World.putObj_heap_other (by simpa using hk')⟩
    have y1 := cofr (hk2.heap (by simp; omega) h2) 0 _ rfl
    have HB2 := Lib.hid (h4.trans (hk2.below (by simp; omega) h4.size))
    have HE := Lib.hid h5
    have HK := Lib.hid hK
    clear h2 h3 h4 h5 hK hk2 HSEQ HI9 HBD HOUT HUNA HWIA
    gi_wp2
    refine ⟨by simp, .inl ⟨_, _, rfl, run_takeDeferred HK.out, ?_⟩⟩
    exact ⟨.int .i64 9223372036854775807, by simp [results, Tryz.results27, go_sem, y1], by rw [HE.out]; exact ⟨rfl, HB2.out⟩⟩
end Go.Proofs.YtohpaoleomcimaaGreat.bk
/-!   Package book: the first record that is lost (NextLost), the first one, the last one.
-/
namespace Go.Proofs.YtohpaoleomcimaaGreat.bk
open Go.RowKit Go.Shelf aid mem rng sp rn bd
attribute [local go_sem] Oper.semAt_some
set_option linter.unusedVariables false
set_option linter.unusedSimpArgs false

abbrev zRc : Rc := ⟨0, 0, 0, 0, 0, 0, false⟩
/-- the first one that is lost -/
def nlR (N : List Nd) : Rc × Bool := match (N.map (·.2)).find? (·.lost) with
  | some r => (r, true)
  | none => (zRc, false)
structure NI (w : World) (N : List Nd) (pre : List Nd) (C : Nat → Prop) (X : World) : Prop where
  rb : X.heap[w.heap.size]? = some (.cells #[.int .i64 0, .int .i64 0, .int .i64 0, .int .i64 0, .int .i64 0, .int .i64 0, .bool false] 50 (0, 0))
  bb : X.heap[w.heap.size + 1]? = some (.cells #[.bool false] 4 (0, 0))
  c0 : C w.heap.size
  c1 : C (w.heap.size + 1)
  below : Below w.heap.size w X
  no : nlR N = nlR (N.drop pre.length)
def NIz (w : World) (N : List Nd) (c : Code) (pre : List Nd) (C : Nat → Prop) (X : World) : Prop :=
  isRet c ∧ X.heap[w.heap.size]? = some (rcB (nlR N).1) ∧ X.heap[w.heap.size + 1]? = some (.cells #[.bool true] 4 (0, 0)) ∧ C w.heap.size ∧ C (w.heap.size + 1) ∧ Below w.heap.size w X ∧ (nlR N).2 = true
theorem ni_bears {w : World} {N : List Nd} {n : Nat} (hn : w.heap.size + 1 < n) : Bears n (NI w N) := by
  rintro pre C X Y h hz hs
  exact ⟨hs.heap (.inl (by omega)) h.rb, hs.heap (.inl (by omega)) h.bb, h.c0, h.c1, h.below.trans (hs.below h.below.size (fun k hk => .inl (by omega))), h.no⟩
theorem niz_bears {w : World} {N : List Nd} {n : Nat} (hn : w.heap.size + 1 < n) (c : Code) : Bears n (NIz w N c) := by
  rintro pre C X Y ⟨h1, h2, h3, h4, h5, h6, h7⟩ hz hs
  exact ⟨h1, hs.heap (.inl (by omega)) h2, hs.heap (.inl (by omega)) h3, h4, h5, h6.trans (hs.below h6.size (fun k hk => .inl (by omega))), h7⟩
set_option maxRecDepth 100000 in
set_option maxHeartbeats 8000000 in
theorem nextlost_any {w : World} {p : Option Addr} {N L : List Nd} (h : BO w p N L) (hlo : Lo N) :
    Calls Tryz.prog 25 #[.pointer p] w fun e w' => e = .returned (.tuple #[rcV (nlR N).1, .bool (nlR N).2]) ∧ Below w.heap.size w w' := by
  have HALL := Lib.hid (fun (X : World) (hX : Below w.heap.size w X) (A : Nat → Prop) (hA : ∀ k, A k → w.heap.size ≤ k ∧ k < X.heap.size) => all_any hX h hlo A (fun k hk => ⟨(hA k hk).2, fun cs e => by have := lt_of_block e; have := (hA k hk).1; omega⟩) (fun y hy e => by obtain ⟨q1, q2, hn⟩ := h.nd y hy; have := hn.lt; have := (hA _ e).1; omega))
  clear h hlo
  refine (callsIn_wide (n := 6)).1 ?_
  refine callsIn_of_wp_marks Tryz.func25 rfl trivial ?_ rfl
  simp only [Tryz.ntmps25, List.size_toArray, List.length_cons, List.length_nil, Nat.reduceAdd, Nat.reduceSub, Array.replicate_succ, Array.replicate_zero, List.push_toArray, List.append_toArray, List.nil_append, List.cons_append]
  obtain ⟨W3, hW3⟩ : ∃ W3, W3 = (w.alloc (.cells #[.int .i64 0, .int .i64 0, .int .i64 0, .int .i64 0, .int .i64 0, .int .i64 0, .bool false] 50)).alloc (.cells #[.bool false] 4) := ⟨_, rfl⟩
  have hb3 : Below w.heap.size w W3 := by rw [hW3]; exact ((Below.refl _ _).alloc (Nat.le_refl _) _).alloc (by simp) _
  have hz3 : W3.heap.size = w.heap.size + 2 := by rw [hW3]; simp
  have hI3 : NI w N [] (fun k => k = w.heap.size ∨ k = w.heap.size + 1) W3 := by
    rw [hW3]
    refine ⟨?_, ?_, .inl rfl, .inr rfl, by rw [← hW3]; exact hb3, rfl⟩
    · exact ((bal _).block w.heap.size (by simp only [World.size_alloc]; omega)).trans (heap_alloc_new w _)
    · have := heap_alloc_new (w.alloc (.cells #[.int .i64 0, .int .i64 0, .int .i64 0, .int .i64 0, .int .i64 0, .int .i64 0, .bool false] 50)) (.cells #[.bool false] 4)
      rw [World.size_alloc] at this
      exact this
  have HI3 := Lib.hid hI3
  have HA3 := Lib.hid (HALL.out W3 hb3 (fun k => k = w.heap.size ∨ k = w.heap.size + 1) (fun k hk => by omega))
  clear hI3 HALL
  gi_wp2
  rw [← hW3]
  clear hW3
  refine ⟨trivial, ?_⟩
  refine (callsIn_wide.2 HA3.out).mono ?_
  rintro e w9 ⟨lb, rfl, hseq, h9⟩
  have HSEQ := Lib.hid hseq
  have hz9 := h9.size
  have HI9 : Hid (NI w N [] (fun k => k = w.heap.size ∨ k = w.heap.size + 1) w9) := Lib.hid ⟨(h9.block _ (by omega)).trans HI3.out.rb, (h9.block _ (by omega)).trans HI3.out.bb, .inl rfl, .inr rfl, hb3.trans (h9.mono hb3.size), rfl⟩
  have hz : w.heap.size + 1 < w9.heap.size := by omega
  clear hseq h9 hz9 hb3 hz3 HI3 HA3
  gi_wp2
  refine wpIn_rangeBoxP (fun (b : Nat) (y : Nd) (t : Array Value) => (t.setIfInBounds 7 (rcV y.2)).setIfInBounds 4 (.pointer (some ⟨b, 0, none⟩))) (gf := 112) (lb := lb) (L := N) (A := fun k => k = w.heap.size ∨ k = w.heap.size + 1) (w0 := w9) (encs := recE) rfl eg_rec HSEQ.out (Below.refl _ _) (fun _ => rfl)
    (NI w N) (NIz w N) (fun k => k = w.heap.size ∨ k = w.heap.size + 1) ?hc0 (ni_bears hz) (niz_bears hz) HI9.out (PIb w9.heap.size) (pib_bears) ?assign ?body ?done ?stop
  case hc0 =>
    intro k hk
    exact ⟨.inl hk, by omega⟩
  case assign =>
    rintro l' pre y C X K hI hp hc hzX hK
    have b1 := bal (w := X) (rcB y.2)
    have HK := Lib.hid (hK X.heap.size (fun k => C k ∨ k = X.heap.size) _ ⟨Steps.of_below b1 _, fun k hk => by rcases hk with hk | rfl; exact .inl hk; exact .inr ⟨Nat.le_refl _, by simp⟩⟩
      ⟨(b1.block _ (lt_of_block hI.rb)).trans hI.rb, (b1.block _ (lt_of_block hI.bb)).trans hI.bb, .inl hI.c0, .inl hI.c1, hI.below.trans (b1.mono hI.below.size), hI.no⟩ ⟨heap_alloc_new X _, hzX, .inr rfl⟩)
    clear hK hI hp hc b1
    gi_wp2
    exact HK.out
  case body =>
    rintro l' pre y b C X hI ⟨hyb, hbz, hcb⟩ hp hcc hzX
    have hdr := drop_at hp
    have hno := hI.no
    rw [hdr] at hno
    generalize hr : y.2 = r at *
    have e0 : X.cell? ⟨b, 0, none⟩ = some (.int .i64 r.f) := cofr hyb 0 _ rfl
    have e1 : X.cell? ⟨b, 1, none⟩ = some (.int .i64 r.t) := cofr hyb 1 _ rfl
    have e2 : X.cell? ⟨b, 2, none⟩ = some (.int .i64 r.sent) := cofr hyb 2 _ rfl
    have e3 : X.cell? ⟨b, 3, none⟩ = some (.int .i64 r.order) := cofr hyb 3 _ rfl
    have e4 : X.cell? ⟨b, 4, none⟩ = some (.int .i64 r.times) := cofr hyb 4 _ rfl
    have e5 : X.cell? ⟨b, 5, none⟩ = some (.int .i64 r.out) := cofr hyb 5 _ rfl
    have e6 : X.cell? ⟨b, 6, none⟩ = some (.bool r.lost) := cofr hyb 6 _ rfl
    cases hl : r.lost
    · have HN := Lib.hid (fun a' : Act => show rPost (NI w N) (NIz w N) (pre ++ [y]) C X .normal a' X from ⟨C, Round.refl C X, hI.rb, hI.bb, hI.c0, hI.c1, hI.below, by
        rw [hno]
        unfold nlR
        rw [List.map_cons, List.find?_cons_of_neg (by rw [hr, hl]; simp)]⟩)
      rw [hl] at e6
      clear hyb hI hp hcc hzX hdr hno HSEQ HI9
      simp only [List.setIfInBounds_toArray, List.set_cons_zero, List.set_cons_succ]
      gi_wp2
      exact HN.out _
    · have hnl : nlR N = (r, true) := by
        rw [hno]
        unfold nlR
        rw [List.map_cons, List.find?_cons_of_pos (by rw [hr, hl]), hr]
      have f0 := fofr hI.rb 0; have f1 := fofr hI.rb 1; have f2 := fofr hI.rb 2; have f3 := fofr hI.rb 3; have f4 := fofr hI.rb 4; have f5 := fofr hI.rb 5; have f6 := fofr hI.rb 6
      have z0 := cofr hI.rb 0 _ rfl; have z1 := cofr hI.rb 1 _ rfl; have z2 := cofr hI.rb 2 _ rfl; have z3 := cofr hI.rb 3 _ rfl; have z4 := cofr hI.rb 4 _ rfl; have z5 := cofr hI.rb 5 _ rfl; have z6 := cofr hI.rb 6 _ rfl
      have g0 := cofr hI.bb 0 _ rfl; have g1 := fofr hI.bb 0
      rw [hl] at e6
      have HP := Lib.hid (put7 hI.rb (.int .i64 r.f) (.int .i64 r.t) (.int .i64 r.sent) (.int .i64 r.order) (.int .i64 r.times) (.int .i64 r.out) (.bool true))
      have HKP := Lib.hid (kp7 X w.heap.size (.int .i64 r.f) (.int .i64 r.t) (.int .i64 r.sent) (.int .i64 r.order) (.int .i64 r.times) (.int .i64 r.out) (.bool true))
      have HI := Lib.hid hI
      have HNL := Lib.hid hnl
      have HL := Lib.hid hl
      clear hyb hI hp hcc hzX hdr hno HSEQ HI9 hl hnl
      simp only [List.setIfInBounds_toArray, List.set_cons_zero, List.set_cons_succ]
      gi_wp2
      generalize ((((((X.setCell ⟨w.heap.size, 0, none⟩ (.int .i64 r.f)).setCell ⟨w.heap.size, 1, none⟩ (.int .i64 r.t)).setCell ⟨w.heap.size, 2, none⟩ (.int .i64 r.sent)).setCell ⟨w.heap.size, 3, none⟩ (.int .i64 r.order)).setCell ⟨w.heap.size, 4, none⟩ (.int .i64 r.times)).setCell ⟨w.heap.size, 5, none⟩ (.int .i64 r.out)).setCell ⟨w.heap.size, 6, none⟩ (.bool true) = V at *
      have hbV := HKP.out.heap (by simp) HI.out.bb
      have hk2 : Kept [w.heap.size + 1] V (V.setCell ⟨w.heap.size + 1, 0, none⟩ (.bool true)) := (Kept.refl _ V).setCell (.inl (by simp)) _
      refine ⟨C, (Round.of_kept HKP.out (fun k hk => by simp at hk; subst hk; exact HI.out.c0)).trans (Round.of_kept hk2 (fun k hk => by simp at hk; subst hk; exact HI.out.c1)), rfl, ?_, (heap_setCell_same V _ 0 _ _ _ hbV).trans rfl, HI.out.c0, HI.out.c1, ?_, by rw [HNL.out]⟩
      · rw [HNL.out]
        refine (hk2.heap (by simp) HP.out).trans ?_
        show some (Obj.cells #[.int .i64 r.f, .int .i64 r.t, .int .i64 r.sent, .int .i64 r.order, .int .i64 r.times, .int .i64 r.out, .bool true] _ (0, 0)) = some (rcB r)
        rw [show rcB r = .cells #[.int .i64 r.f, .int .i64 r.t, .int .i64 r.sent, .int .i64 r.order, .int .i64 r.times, .int .i64 r.out, .bool r.lost] 50 from rfl, HL.out]
      · exact (HI.out.below.trans (HKP.out.below (by simp) HI.out.below.size)).trans (hk2.below (by simp) (by have := HI.out.below.size; have := HKP.out.size; omega))
  case done =>
    rintro D C X hD hCD hI hK
    have hbD : w.heap.size + 1 < D := by omega
    have hno := hI.no
    rw [List.drop_length] at hno
    have HNL := Lib.hid (show nlR N = (zRc, false) from hno)
    have f0 := fofr hI.rb 0; have f1 := fofr hI.rb 1; have f2 := fofr hI.rb 2; have f3 := fofr hI.rb 3; have f4 := fofr hI.rb 4; have f5 := fofr hI.rb 5; have f6 := fofr hI.rb 6
    have z0 := cofr hI.rb 0 _ rfl; have z1 := cofr hI.rb 1 _ rfl; have z2 := cofr hI.rb 2 _ rfl; have z3 := cofr hI.rb 3 _ rfl; have z4 := cofr hI.rb 4 _ rfl; have z5 := cofr hI.rb 5 _ rfl; have z6 := cofr hI.rb 6 _ rfl
    have g0 := cofr hI.bb 0 _ rfl; have g1 := fofr hI.bb 0
    have HP := Lib.hid (put7 hI.rb (.int .i64 0) (.int .i64 0) (.int .i64 0) (.int .i64 0) (.int .i64 0) (.int .i64 0) (.bool false))
    have HKP := Lib.hid (kp7 X w.heap.size (.int .i64 0) (.int .i64 0) (.int .i64 0) (.int .i64 0) (.int .i64 0) (.int .i64 0) (.bool false))
    have HI := Lib.hid hI
    have HK := Lib.hid hK
    clear hI hK hno HSEQ HI9
    gi_wp2
    generalize ((((((X.setCell ⟨w.heap.size, 0, none⟩ (.int .i64 0)).setCell ⟨w.heap.size, 1, none⟩ (.int .i64 0)).setCell ⟨w.heap.size, 2, none⟩ (.int .i64 0)).setCell ⟨w.heap.size, 3, none⟩ (.int .i64 0)).setCell ⟨w.heap.size, 4, none⟩ (.int .i64 0)).setCell ⟨w.heap.size, 5, none⟩ (.int .i64 0)).setCell ⟨w.heap.size, 6, none⟩ (.bool false) = V at *
    have hbV := HKP.out.heap (by simp) HI.out.bb
    have hk1 : Kept [w.heap.size + 1] V (V.setCell ⟨w.heap.size + 1, 0, none⟩ (.bool false)) := (Kept.refl _ V).setCell (.inl (by simp)) _
    have y8 := (heap_setCell_same V (w.heap.size + 1) 0 _ _ (.bool false) hbV).trans rfl
    have y9 := hk1.heap (by simp) HP.out
    have HKU := Lib.hid (hk1.heap (by simp; omega) (HKP.out.heap (by simp; omega) HK.out))
    have hbU : Below w.heap.size w (V.setCell ⟨w.heap.size + 1, 0, none⟩ (.bool false)) := (HI.out.below.trans (HKP.out.below (by simp) HI.out.below.size)).trans (hk1.below (by simp) (by have := HI.out.below.size; have := HKP.out.size; omega))
    clear hk1 hbV f0 f1 f2 f3 f4 f5 f6 z0 z1 z2 z3 z4 z5 z6 g0 g1
    generalize V.setCell ⟨w.heap.size + 1, 0, none⟩ (.bool false) = U at *
    have hk2 : Kept [D] U (U.putObj D (.deferred none)) := ⟨rfl, rfl, rfl, by simp, fun k _ hk' => World.putObj_heap_other (by simpa using hk')⟩
    have y := hk2.heap (by simp; omega) y9
    have y0 := cofr y 0 _ rfl; have y1 := cofr y 1 _ rfl; have y2 := cofr y 2 _ rfl; have y3 := cofr y 3 _ rfl; have y4 := cofr y 4 _ rfl; have y5 := cofr y 5 _ rfl; have y6 := cofr y 6 _ rfl
    have y7 := cofr (hk2.heap (by simp; omega) y8) 0 _ rfl
    have HB2 := Lib.hid (hbU.trans (hk2.below (by simp; omega) hbU.size))
    refine ⟨by simp, .inl ⟨_, _, rfl, run_takeDeferred HKU.out, ?_⟩⟩
    exact ⟨.tuple #[rcV zRc, .bool false], by simp [results, Tryz.results25, go_sem, y0, y1, y2, y3, y4, y5, y6, y7], by rw [HNL.out]; exact ⟨rfl, HB2.out⟩⟩
  case stop =>
    rintro D c pre C X hD hCD ⟨rfl, h2, h3, h4, h5, h6, h7⟩ hK
    have hbD : w.heap.size + 1 < D := by omega
    have hk2 : Kept [D] X (X.putObj D (.deferred none)) := ⟨rfl, rfl, rfl, by simp, fun k _ hk' => World.putObj_heap_other (by simpa using hk')⟩
    have y := hk2.heap (by simp; omega) h2
    have y0 := cofr y 0 _ rfl; have y1 := cofr y 1 _ rfl; have y2 := cofr y 2 _ rfl; have y3 := cofr y 3 _ rfl; have y4 := cofr y 4 _ rfl; have y5 := cofr y 5 _ rfl; have y6 := cofr y 6 _ rfl
    have y7 := cofr (hk2.heap (by simp; omega) h3) 0 _ rfl
    have HB2 := Lib.hid (h6.trans (hk2.below (by simp; omega) h6.size))
    have HE := Lib.hid h7
    have HK := Lib.hid hK
    clear h2 h3 h4 h5 h6 h7 hK hk2 y HSEQ HI9
    gi_wp2
    refine ⟨by simp, .inl ⟨_, _, rfl, run_takeDeferred HK.out, ?_⟩⟩
    exact ⟨.tuple #[rcV (nlR N).1, .bool true], by simp [results, Tryz.results25, go_sem, y0, y1, y2, y3, y4, y5, y6, y7], by rw [HE.out]; exact ⟨rfl, HB2.out⟩⟩
end Go.Proofs.YtohpaoleomcimaaGreat.bk
/-!   Package book: the first record, the last one, how many there are, Nxt.
-/
namespace Go.Proofs.YtohpaoleomcimaaGreat.bk
open Go.RowKit Go.Shelf aid mem rng sp rn bd
attribute [local go_sem ↓] Go.wp_at_zero Go.wp_at_succ
attribute [local go_sem] Oper.semAt_some
set_option linter.unusedVariables false
set_option linter.unusedSimpArgs false

abbrev zN : Obj := .cells #[.int .i64 0, .int .i64 0, .int .i64 0, .int .i64 0, .int .i64 0, .int .i64 0, .bool false] 50
/-- a record, and whether there is one -/
def RetQ (o : Rc × Bool) (w : World) (e : Ending) (w' : World) : Prop := e = .returned (.tuple #[rcV o.1, .bool o.2]) ∧ Below w.heap.size w w'
theorem bel7 {w W : World} {X : Nat} (h : Below w.heap.size w W) (hX : w.heap.size ≤ X) (a b c d e f g : Value) : Below w.heap.size w (((((((W.setCell ⟨X, 0, none⟩ a).setCell ⟨X, 1, none⟩ b).setCell ⟨X, 2, none⟩ c).setCell ⟨X, 3, none⟩ d).setCell ⟨X, 4, none⟩ e).setCell ⟨X, 5, none⟩ f).setCell ⟨X, 6, none⟩ g) :=
  h.trans ((kp7 W X a b c d e f g).below (by simpa using hX) h.size)
set_option maxRecDepth 100000 in
set_option maxHeartbeats 1000000 in
theorem told_no (k : Int) (q : Option Addr) (w : World) : Calls Tryz.prog 71 #[.int .i64 k, .pointer q, .bool false] w (RetQ (zRc, false) w) := by
  have Y := Lib.hid (heap_alloc_new w zN)
  have B := Lib.hid (bal (w := w) zN)
  go_enter Tryz.func71, Tryz.ntmps71
  go_upto_region 1 with fail
  generalize w.alloc zN = W at *
  have y1 : W.heap[w.heap.size]? = some (.cells #[.int .i64 0, .int .i64 0, .int .i64 0, .int .i64 0, .int .i64 0, .int .i64 0, .bool false] 50 (0, 0)) := Y.out
  have f0 := fofr y1 0; have f1 := fofr y1 1; have f2 := fofr y1 2; have f3 := fofr y1 3; have f4 := fofr y1 4; have f5 := fofr y1 5; have f6 := fofr y1 6
  have z0 := cofr y1 0 _ rfl; have z1 := cofr y1 1 _ rfl; have z2 := cofr y1 2 _ rfl; have z3 := cofr y1 3 _ rfl; have z4 := cofr y1 4 _ rfl; have z5 := cofr y1 5 _ rfl; have z6 := cofr y1 6 _ rfl
  have HP := Lib.hid (put7 y1 (.int .i64 0) (.int .i64 0) (.int .i64 0) (.int .i64 0) (.int .i64 0) (.int .i64 0) (.bool false))
  have HB := Lib.hid (bel7 B.out (Nat.le_refl _) (.int .i64 0) (.int .i64 0) (.int .i64 0) (.int .i64 0) (.int .i64 0) (.int .i64 0) (.bool false))
  clear y1
  go_wp2_with fail
  have p0 := cofr HP.out 0 _ rfl; have p1 := cofr HP.out 1 _ rfl; have p2 := cofr HP.out 2 _ rfl; have p3 := cofr HP.out 3 _ rfl; have p4 := cofr HP.out 4 _ rfl; have p5 := cofr HP.out 5 _ rfl; have p6 := cofr HP.out 6 _ rfl
  exact bodyPost_ret (v := .tuple #[rcV zRc, .bool false]) (by simp [results, Tryz.results71, go_sem, p0, p1, p2, p3, p4, p5, p6]) rfl ⟨rfl, HB.out⟩
set_option maxRecDepth 100000 in
set_option maxHeartbeats 1000000 in
theorem told_yes {w : World} {b : Nat} {r : Rc} {a z : Option Nat} (h : NdAt w b r a z) (k : Int) : Calls Tryz.prog 71 #[.int .i64 k, .pointer (some ⟨b, 0, none⟩), .bool true] w (RetQ (r, true) w) := by
  have Y := Lib.hid (heap_alloc_new w zN)
  have B := Lib.hid (bal (w := w) zN)
  have HN := Lib.hid (h.later B.out)
  clear h
  go_enter Tryz.func71, Tryz.ntmps71
  go_upto_region 1 with fail
  generalize w.alloc zN = W at *
  obtain ⟨n0, n1, n2, n3, n4, n5, n6, _, _⟩ := HN.out.cs
  have y1 : W.heap[w.heap.size]? = some (.cells #[.int .i64 0, .int .i64 0, .int .i64 0, .int .i64 0, .int .i64 0, .int .i64 0, .bool false] 50 (0, 0)) := Y.out
  have f0 := fofr y1 0; have f1 := fofr y1 1; have f2 := fofr y1 2; have f3 := fofr y1 3; have f4 := fofr y1 4; have f5 := fofr y1 5; have f6 := fofr y1 6
  have z0 := cofr y1 0 _ rfl; have z1 := cofr y1 1 _ rfl; have z2 := cofr y1 2 _ rfl; have z3 := cofr y1 3 _ rfl; have z4 := cofr y1 4 _ rfl; have z5 := cofr y1 5 _ rfl; have z6 := cofr y1 6 _ rfl
  have HP := Lib.hid (put7 y1 (.int .i64 r.f) (.int .i64 r.t) (.int .i64 r.sent) (.int .i64 r.order) (.int .i64 r.times) (.int .i64 r.out) (.bool r.lost))
  have HB := Lib.hid (bel7 B.out (Nat.le_refl _) (.int .i64 r.f) (.int .i64 r.t) (.int .i64 r.sent) (.int .i64 r.order) (.int .i64 r.times) (.int .i64 r.out) (.bool r.lost))
  clear y1
  go_wp2_with fail
  have p0 := cofr HP.out 0 _ rfl; have p1 := cofr HP.out 1 _ rfl; have p2 := cofr HP.out 2 _ rfl; have p3 := cofr HP.out 3 _ rfl; have p4 := cofr HP.out 4 _ rfl; have p5 := cofr HP.out 5 _ rfl; have p6 := cofr HP.out 6 _ rfl
  exact bodyPost_ret (v := .tuple #[rcV r, .bool true]) (by simp [results, Tryz.results71, go_sem, p0, p1, p2, p3, p4, p5, p6]) rfl ⟨rfl, HB.out⟩
def fstR : List Nd → Rc × Bool
  | [] => (zRc, false)
  | x :: _ => (x.2, true)
def lstR (N : List Nd) : Rc × Bool := match N.getLast? with
  | none => (zRc, false)
  | some x => (x.2, true)
theorem size_kv {t : cv.T} {N : List Nd} (h : t.toL = kvN N) : t.size = N.length := by rw [← cv.T.size_toL, h, kvN_len]
theorem len_any {w : World} {p : Option Addr} {N L : List Nd} (h : BO w p N L) : Calls Tryz.prog 14 #[.pointer p] w fun e w' => e = .returned (.int .i64 (N.length : Int)) ∧ w = w' := by
  have HT := Lib.hid (tree_any (Below.refl _ _) h)
  clear h
  go_enter Tryz.func14, Tryz.ntmps14
  go_wp2_with (first
    | (go_at_call 55; (with_reducible refine HT.out.mono ?_); rintro e w2 ⟨rfl, q, rfl, t, hq, ht⟩; have HS := Lib.hid (size_kv ht); clear ht)
    | (go_at_call 56; (with_reducible refine (cv.tlen_any hq).mono ?_); rintro e w3 ⟨rfl, rfl⟩))
  go_ret
  exact ⟨by rw [HS.out]; rfl, rfl⟩
theorem nxt_no (w : World) : Calls Tryz.prog 32 #[.pointer none] w fun e w' => e = .returned (.int .i64 0) ∧ w = w' := by
  go_enter Tryz.func32, Tryz.ntmps32
  go_wp2
  go_ret
  exact ⟨rfl, rfl⟩
theorem nxt_yes {w : World} {B T : Nat} {s : Hd} {N L : List Nd} (h : Bk w B T s N L) : Calls Tryz.prog 32 #[.pointer (some ⟨B, 0, none⟩)] w fun e w' => e = .returned (.int .i64 s.nxt) ∧ w = w' := by
  obtain ⟨c0, c1, c2, c3, c4, c5⟩ := h.ln.bk.cs
  clear h
  go_enter Tryz.func32, Tryz.ntmps32
  go_wp2
  go_ret
  exact ⟨rfl, rfl⟩
/-- told of what a tree tells -/
theorem told_at {w w1 : World} {p : Option Addr} {N L : List Nd} (h : BO w p N L) (i : Int) (o : Rc × Bool) (ho : (cv.atL (kvN N) i = none ∧ o = (zRc, false)) ∨ ∃ x ∈ N, cv.atL (kvN N) i = some (x.2.f, some ⟨x.1, 0, none⟩) ∧ o = (x.2, true)) :
    ∃ (k : Int) (q : Option Addr) (b : Bool), cv.tupO (cv.atL (kvN N) i) = .tuple #[.int .i64 k, .pointer q, .bool b] ∧ ∀ W, Below w.heap.size w W → Calls Tryz.prog 71 #[.int .i64 k, .pointer q, .bool b] W (RetQ o W) := by
  rcases ho with ⟨h1, rfl⟩ | ⟨x, hx, h1, rfl⟩
  · exact ⟨0, none, false, by rw [h1]; rfl, fun W _ => told_no 0 none W⟩
  · obtain ⟨a, z, hn⟩ := h.nd x hx
    exact ⟨x.2.f, some ⟨x.1, 0, none⟩, true, by rw [h1]; rfl, fun W hW => told_yes (hn.later hW) _⟩
theorem at_fst (N : List Nd) : (cv.atL (kvN N) 0 = none ∧ fstR N = (zRc, false)) ∨ ∃ x ∈ N, cv.atL (kvN N) 0 = some (x.2.f, some ⟨x.1, 0, none⟩) ∧ fstR N = (x.2, true) := by
  cases N with
  | nil => exact .inl ⟨rfl, rfl⟩
  | cons x N => exact .inr ⟨x, by simp, rfl, rfl⟩
theorem at_lst (N : List Nd) : (cv.atL (kvN N) ((N.length : Int) - 1) = none ∧ lstR N = (zRc, false)) ∨ ∃ x ∈ N, cv.atL (kvN N) ((N.length : Int) - 1) = some (x.2.f, some ⟨x.1, 0, none⟩) ∧ lstR N = (x.2, true) := by
  rcases List.eq_nil_or_concat N with rfl | ⟨M, x, rfl⟩
  · exact .inl ⟨rfl, rfl⟩
  · rw [List.concat_eq_append]
    refine .inr ⟨x, by simp, ?_, by simp [lstR]⟩
    unfold cv.atL kvN
    rw [if_pos (by simp <;> omega), show (((M ++ [x]).length : Int) - 1).toNat = M.length by simp <;> omega]
    simp
def zput (X : Nat) (r : Rc) (W : World) : World := ((((((W.setCell ⟨X, 0, none⟩ (.int .i64 r.f)).setCell ⟨X, 1, none⟩ (.int .i64 r.t)).setCell ⟨X, 2, none⟩ (.int .i64 r.sent)).setCell ⟨X, 3, none⟩ (.int .i64 r.order)).setCell ⟨X, 4, none⟩ (.int .i64 r.times)).setCell ⟨X, 5, none⟩ (.int .i64 r.out)).setCell ⟨X, 6, none⟩ (.bool r.lost)
set_option maxRecDepth 100000 in
set_option maxHeartbeats 2000000 in
theorem first_any {w : World} {p : Option Addr} {N L : List Nd} (h : BO w p N L) (hz : N.length ≤ 900000) : Calls Tryz.prog 23 #[.pointer p] w (RetQ (fstR N) w) := by
  have y1 := heap_alloc_new w zN
  have b1 := bal (w := w) zN
  obtain ⟨k, q, b, ht, hc⟩ := told_at (w1 := w) h 0 (fstR N) (at_fst N)
  have HT := Lib.hid (tree_any b1 h)
  have HA : Hid (∀ q' t, cv.TrO w q' t → t.toL = kvN N → ∀ W, Below w.heap.size w W → Calls Tryz.prog 72 #[.pointer q', .int .i64 0] W fun e w' => e = .returned (.tuple #[.int .i64 k, .pointer q, .bool b]) ∧ Below W.heap.size W w') := Lib.hid (fun q' t hq ht' W hW => by
    have := cv.tat_any (cv.tr_later hq hW) 0 (by omega) (by rw [size_kv ht']; omega)
    rw [ht', ht] at this
    exact this)
  have HC := Lib.hid hc
  have HB1 := Lib.hid b1
  have HY := Lib.hid y1
  clear h ht hc b1 y1
  unfold RetQ at HC
  generalize fstR N = o at *
  obtain ⟨r, ob⟩ := o
  dsimp only at HC ⊢
  unfold RetQ
  dsimp only
  go_enter Tryz.func23, Tryz.ntmps23
  go_wp2_with (first
    | (go_at_call 55; (with_reducible refine HT.out.mono ?_); rintro e w2 ⟨rfl, q', rfl, t, hq, ht⟩; have HA2 := Lib.hid (HA.out q' t hq ht _ HB1.out); clear hq ht)
    | (go_at_call 72; (with_reducible refine HA2.out.mono ?_); rintro e w3 ⟨rfl, h3⟩; have HB3 := Lib.hid (HB1.out.trans (h3.mono HB1.out.size)); have HY3 := Lib.hid ((h3.block _ (lt_of_block HY.out)).trans HY.out); clear h3)
    | (go_at_call 71; (with_reducible refine (HC.out _ HB3.out).mono ?_); rintro e w4 ⟨rfl, h4⟩; have HB4 := Lib.hid (HB3.out.trans (h4.mono HB3.out.size)); have y4 := (h4.block _ (lt_of_block HY3.out)).trans HY3.out; clear h4
       have f0 := fofr y4 0; have f1 := fofr y4 1; have f2 := fofr y4 2; have f3 := fofr y4 3; have f4 := fofr y4 4; have f5 := fofr y4 5; have f6 := fofr y4 6
       have z0 := cofr y4 0 _ rfl; have z1 := cofr y4 1 _ rfl; have z2 := cofr y4 2 _ rfl; have z3 := cofr y4 3 _ rfl; have z4 := cofr y4 4 _ rfl; have z5 := cofr y4 5 _ rfl; have z6 := cofr y4 6 _ rfl
       have HP := Lib.hid (put7 y4 (.int .i64 r.f) (.int .i64 r.t) (.int .i64 r.sent) (.int .i64 r.order) (.int .i64 r.times) (.int .i64 r.out) (.bool r.lost)); have HF := Lib.hid (bel7 HB4.out (Nat.le_refl _) (.int .i64 r.f) (.int .i64 r.t) (.int .i64 r.sent) (.int .i64 r.order) (.int .i64 r.times) (.int .i64 r.out) (.bool r.lost)); clear y4))
  have p0 := cofr HP.out 0 _ rfl; have p1 := cofr HP.out 1 _ rfl; have p2 := cofr HP.out 2 _ rfl; have p3 := cofr HP.out 3 _ rfl; have p4 := cofr HP.out 4 _ rfl; have p5 := cofr HP.out 5 _ rfl; have p6 := cofr HP.out 6 _ rfl
  exact bodyPost_ret (v := .tuple #[rcV r, .bool ob]) (by simp [results, Tryz.results23, go_sem, p0, p1, p2, p3, p4, p5, p6]) rfl ⟨rfl, HF.out⟩
set_option maxRecDepth 100000 in
set_option maxHeartbeats 2000000 in
theorem last_any {w : World} {p : Option Addr} {N L : List Nd} (h : BO w p N L) (hz : N.length ≤ 900000) : Calls Tryz.prog 24 #[.pointer p] w (RetQ (lstR N) w) := by
  have y1 := heap_alloc_new w zN
  have b1 := bal (w := w) zN
  obtain ⟨k, q, b, ht, hc⟩ := told_at (w1 := w) h ((N.length : Int) - 1) (lstR N) (at_lst N)
  have HT := Lib.hid (tree_any b1 h)
  have HLEN := Lib.hid (len_any (h.later b1))
  have hw : IntKind.i64.wrap ((N.length : Int) - 1) = (N.length : Int) - 1 := IntWalk.i64_in _ (by omega)
  have HA : Hid (∀ q' t, cv.TrO w q' t → t.toL = kvN N → ∀ W, Below w.heap.size w W → Calls Tryz.prog 72 #[.pointer q', .int .i64 ((N.length : Int) - 1)] W fun e w' => e = .returned (.tuple #[.int .i64 k, .pointer q, .bool b]) ∧ Below W.heap.size W w') := Lib.hid (fun q' t hq ht' W hW => by
    have := cv.tat_any (cv.tr_later hq hW) ((N.length : Int) - 1) (by omega) (by rw [size_kv ht']; omega)
    rw [ht', ht] at this
    exact this)
  have HC := Lib.hid hc
  have HB1 := Lib.hid b1
  have HY := Lib.hid y1
  clear h ht hc b1 y1
  unfold RetQ at HC
  generalize lstR N = o at *
  obtain ⟨r, ob⟩ := o
  dsimp only at HC ⊢
  unfold RetQ
  dsimp only
  generalize (N.length : Int) = n at *
  go_enter Tryz.func24, Tryz.ntmps24
  go_wp2_with (first
    | (go_at_call 55; (with_reducible refine HT.out.mono ?_); rintro e w2 ⟨rfl, q', rfl, t, hq, ht⟩; have HA2 := Lib.hid (HA.out q' t hq ht _ HB1.out); clear hq ht)
    | (go_at_call 14; (with_reducible refine HLEN.out.mono ?_); rintro e w2 ⟨rfl, rfl⟩)
    | (go_at_call 72; (with_reducible refine HA2.out.mono ?_); rintro e w3 ⟨rfl, h3⟩; have HB3 := Lib.hid (HB1.out.trans (h3.mono HB1.out.size)); have HY3 := Lib.hid ((h3.block _ (lt_of_block HY.out)).trans HY.out); clear h3)
    | (go_at_call 71; (with_reducible refine (HC.out _ HB3.out).mono ?_); rintro e w4 ⟨rfl, h4⟩; have HB4 := Lib.hid (HB3.out.trans (h4.mono HB3.out.size)); have y4 := (h4.block _ (lt_of_block HY3.out)).trans HY3.out; clear h4
       have f0 := fofr y4 0; have f1 := fofr y4 1; have f2 := fofr y4 2; have f3 := fofr y4 3; have f4 := fofr y4 4; have f5 := fofr y4 5; have f6 := fofr y4 6
       have z0 := cofr y4 0 _ rfl; have z1 := cofr y4 1 _ rfl; have z2 := cofr y4 2 _ rfl; have z3 := cofr y4 3 _ rfl; have z4 := cofr y4 4 _ rfl; have z5 := cofr y4 5 _ rfl; have z6 := cofr y4 6 _ rfl
       have HP := Lib.hid (put7 y4 (.int .i64 r.f) (.int .i64 r.t) (.int .i64 r.sent) (.int .i64 r.order) (.int .i64 r.times) (.int .i64 r.out) (.bool r.lost)); have HF := Lib.hid (bel7 HB4.out (Nat.le_refl _) (.int .i64 r.f) (.int .i64 r.t) (.int .i64 r.sent) (.int .i64 r.order) (.int .i64 r.times) (.int .i64 r.out) (.bool r.lost)); clear y4))
  have p0 := cofr HP.out 0 _ rfl; have p1 := cofr HP.out 1 _ rfl; have p2 := cofr HP.out 2 _ rfl; have p3 := cofr HP.out 3 _ rfl; have p4 := cofr HP.out 4 _ rfl; have p5 := cofr HP.out 5 _ rfl; have p6 := cofr HP.out 6 _ rfl
  exact bodyPost_ret (v := .tuple #[rcV r, .bool ob]) (by simp [results, Tryz.results24, go_sem, p0, p1, p2, p3, p4, p5, p6]) rfl ⟨rfl, HF.out⟩
end Go.Proofs.YtohpaoleomcimaaGreat.bk
/-!   Ranges over functions whose consumer may write what the iterator reads. (Written by gen_bokt.py out of XRng.) Imports nothing of the program.
-/
namespace Go.Proofs.YtohpaoleomcimaaGreat.rng
open Go.RowKit mem
set_option linter.unusedVariables false

/-- as SeqOf; RD: what must stand of an element when it is come to: the consumer's own invariant pays for it -/
def SeqOfR {α : Type} (RD : List α → α → List α → World → Prop) (P : Program) (g : Nat) (lb : Array Value) (encs : α → Array Value) (L : List α) (A : Nat → Prop) (w : World) : Prop :=
  ∀ (l : Nat) (J Jx : List α → (Nat → Prop) → World → Prop) (C0 : Nat → Prop) (W : World),
    Below w.heap.size w W → (∀ k, C0 k → (A k ∨ w.heap.size ≤ k) ∧ k < W.heap.size) → Bears W.heap.size J → Bears W.heap.size Jx →
    (∀ pre x C W1, J pre C W1 → W.heap.size ≤ W1.heap.size → pre ++ [x] <+: L → Yd P l (encs x) W1 fun e W' =>
      ∃ C', Round C W1 C' W' ∧ ((e = .returned (.bool true) ∧ J (pre ++ [x]) C' W') ∨ (e = .returned (.bool false) ∧ Jx (pre ++ [x]) C' W'))) →
    (∀ pre x post C W1, pre ++ x :: post = L → J pre C W1 → RD pre x post W1) →
    J [] C0 W →
    Calls P g (#[.func (.yield l) #[] #[]] ++ lb) W fun e W' => (∃ v, e = .returned v) ∧ ∃ C', J L C' W' ∨ ∃ pre, Jx pre C' W'
/-- **a range over a function**, in a function's body (not within a round) -/
theorem wpIn_rangeR {P : Program} {n : Nat} {α : Type} {g : Operand} {ps : Array Tmp} {assign body : Code} {Q : Exit → Act → World → Prop} {a : Act} {w : World}
    {gf : Nat} {lb : Array Value} (hg : a.eval g = .func (.func gf) #[] lb) (eg : ∀ args w, (callFunc gf args).run P w = .ok (.enter gf args) w)
    {encs : α → Array Value} {L : List α} {A : Nat → Prop} {w0 : World} {RD : List α → α → List α → World → Prop} (hseq : SeqOfR RD P gf lb encs L A w0) (hb0 : Below w0.heap.size w0 w) (hps : ∀ x, (encs x).size = ps.size)
    (I : List α → (Nat → Prop) → World → Prop) (Ix : Code → List α → (Nat → Prop) → World → Prop) (C0 : Nat → Prop) (hC0 : ∀ k, C0 k → (A k ∨ w0.heap.size ≤ k) ∧ k < w.heap.size)
    (hI : Bears w.heap.size I) (hIx : ∀ c, Bears w.heap.size (Ix c)) (h0 : I [] C0 w) (hRD : ∀ pre x post C W, pre ++ x :: post = L → I pre C W → RD pre x post W) (Ax : α → Act → (Nat → Prop) → World → Prop) (hAx : ∀ x a', Bears w.heap.size (fun (_ : Unit) C W => Ax x a' C W))
    (hassign : ∀ (l : Nat) (pre : List α) (x : α) (C : Nat → Prop) (W : World) (K : Act → World → Prop), I pre C W → pre ++ [x] <+: L → (∀ k, C k → k < W.heap.size) → w.heap.size ≤ W.heap.size →
      (∀ a' C' W', Round C W C' W' → I pre C' W' → Ax x a' C' W' → K a' W') →
      assign.wpIn (Fence.wide.inRound l) (n - 1 - 1) P (Exit.then K (fun _ _ _ => False)) { tmps := (ps.zip (encs x)).foldl (fun t (p, v) => t.setIfInBounds p v) a.tmps, defers := [] } W)
    (hbody : ∀ (l : Nat) (pre : List α) (x : α) (a' : Act) (C : Nat → Prop) (W : World), I pre C W → Ax x a' C W → pre ++ [x] <+: L → (∀ k, C k → k < W.heap.size) → w.heap.size ≤ W.heap.size →
      body.wpIn (Fence.wide.inRound l) (n - 1 - 1) P (rPost I Ix (pre ++ [x]) C W) a' W)
    (hdone : ∀ (D : Nat) (C : Nat → Prop) (W : World), w.heap.size ≤ D → ¬ C D → I L C W → W.heap[D]? = some (.deferred (some [])) → Q .normal { a with defers := { target := .collected D, args := #[] } :: a.defers } W)
    (hstop : ∀ (D : Nat) (c : Code) (pre : List α) (C : Nat → Prop) (W : World), w.heap.size ≤ D → ¬ C D → Ix c pre C W → W.heap[D]? = some (.deferred (some [])) → c.wpIn Fence.wide n P Q { a with defers := { target := .collected D, args := #[] } :: a.defers } W) :
    (Code.rangeFunc g ps assign body).wpIn Fence.wide n P Q a w := by
  refine wpIn_rangeFunc ?_
  intro fn hfn
  obtain ⟨rec, hrec⟩ : ∃ rec : LoopState → Option Code → Loop, rec = fun st pe => { state := st, pending := pe, fn, tmps := a.tmps, params := ps, assign, body, defers := w.heap.size } := ⟨_, rfl⟩
  obtain ⟨W1, hW1⟩ : ∃ W1, (w.alloc (.deferred (some []))).alloc (.loop (rec .ready none)) = W1 := ⟨_, rfl⟩
  have hL1 : W1.heap[w.heap.size + 1]? = some (.loop (rec .ready none)) := by
    rw [← hW1]; have := World.alloc_heap_new (w.alloc (.deferred (some []))) (.loop (rec .ready none)); rwa [World.size_alloc] at this
  have hK1 : W1.heap[w.heap.size]? = some (.deferred (some [])) := by
    rw [← hW1]; exact (Below.heap_alloc _ _ _ (by simp)).trans (World.alloc_heap_new w _)
  have hz : W1.heap.size = w.heap.size + 1 + 1 := by rw [← hW1]; simp
  have bw1 : Below w.heap.size w W1 := by rw [← hW1]; exact ((Below.refl _ w).alloc (Nat.le_refl _) _).alloc (by simp) _
  have hI1 : I [] C0 W1 := hI _ _ _ _ h0 (Nat.le_refl _) (Steps.of_below bw1 _)
  refine ⟨w.heap.size + 1, [{ target := .collected w.heap.size, args := #[] }], W1, { target := .fn (.func gf) lb, args := #[.func (.yield (w.heap.size + 1)) #[] #[]] }, W1, gf,
    #[.func (.yield (w.heap.size + 1)) #[] #[]] ++ lb, W1, ?_, ?_, ?_, ?_, (fun h => by simp [Fence.wide] at h), ?_⟩
  · rw [← hW1, hrec]; exact run_enterLoop_outer _ _ _ _ _
  · simp only [resolve, hg]
    simp [go_sem]
  · intro f' hf'; trivial
  · simp [invoke, go_sem, eg]
  · refine callsIn_wide.2 ?_
    -- the two blocks of book-keeping are the consumer's, beside the user's own
    let Cj : (Nat → Prop) → Nat → Prop := fun C k => C k ∨ k = w.heap.size ∨ k = w.heap.size + 1
    let J : List α → (Nat → Prop) → World → Prop := fun pre C' W => ∃ C, C' = Cj C ∧ I pre C W ∧ (¬ C w.heap.size ∧ ¬ C (w.heap.size + 1) ∧ ∀ k, C k → k < W.heap.size) ∧ W.heap[w.heap.size + 1]? = some (.loop (rec .ready none)) ∧ W.heap[w.heap.size]? = some (.deferred (some []))
    let Jx : List α → (Nat → Prop) → World → Prop := fun pre C' W => ∃ C c, C' = Cj C ∧ Ix c pre C W ∧ (¬ C w.heap.size ∧ ¬ C (w.heap.size + 1) ∧ ∀ k, C k → k < W.heap.size) ∧ W.heap[w.heap.size + 1]? = some (.loop (rec .done (some c))) ∧ W.heap[w.heap.size]? = some (.deferred (some []))
    have hsm : ∀ {C : Nat → Prop} {X Y : World}, Steps (fun k => k < W1.heap.size ∨ Cj C k) X Y → Steps (fun k => k < w.heap.size ∨ C k) X Y := fun h => h.mono (fun k _ hk => by
      rcases hk with hk | hk
      · exact .inl (by omega)
      · exact .inr (.inl hk))
    refine (hseq (w.heap.size + 1) J Jx (Cj C0) W1 (hb0.trans (bw1.mono hb0.size)) ?_ ?_ ?_ ?_ (fun pre x post C' W hL hj => by obtain ⟨C, _, hi, _⟩ := hj; exact hRD pre x post C W hL hi) ?_).mono ?_
    · intro k hk
      have h1 := hb0.size
      rcases hk with hk | hk | hk
      · exact ⟨(hC0 k hk).1, by have := (hC0 k hk).2; omega⟩
      · exact ⟨.inr (by omega), by omega⟩
      · exact ⟨.inr (by omega), by omega⟩
    · rintro s C' X Y ⟨C, rfl, hi, ⟨h1, h2, h3⟩, hl, hk⟩ hn hs
      exact ⟨C, rfl, hI _ _ _ _ hi (by omega) (hsm hs), ⟨h1, h2, fun k hk => Nat.lt_of_lt_of_le (h3 k hk) hs.size⟩, hs.heap (.inr (.inr (.inr rfl))) hl, hs.heap (.inr (.inr (.inl rfl))) hk⟩
    · rintro s C' X Y ⟨C, c, rfl, hi, ⟨h1, h2, h3⟩, hl, hk⟩ hn hs
      exact ⟨C, c, rfl, hIx c _ _ _ _ hi (by omega) (hsm hs), ⟨h1, h2, fun k hk => Nat.lt_of_lt_of_le (h3 k hk) hs.size⟩, hs.heap (.inr (.inr (.inr rfl))) hl, hs.heap (.inr (.inr (.inl rfl))) hk⟩
    · -- one round
      rintro pre x C' W ⟨C, rfl, hi, ⟨h1, h2, h3⟩, hl, hk⟩ hWs hpre
      have hlt : w.heap.size + 1 < W.heap.size := (Array.getElem?_eq_some_iff.1 hl).1
      have hy := run_yield (P := P) (args := encs x) hl (by rw [hrec]; exact hps x)
      rw [hrec] at hy
      refine Yd.of (m := n - 1 - 1) ⟨fn, _, assign, body, hy, roundIn_of_wpIn hfn (hassign _ pre x C W _ hi hpre h3 (by omega) ?_)⟩
      clear hy
      intro a' Ca Wa hra hia hax
      have h1a : ¬ Ca w.heap.size := fun e => by rcases hra.2 _ e with e | e; exact h1 e; omega
      have h2a : ¬ Ca (w.heap.size + 1) := fun e => by rcases hra.2 _ e with e | e; exact h2 e; omega
      have h3a : ∀ k, Ca k → k < Wa.heap.size := fun k hk => by rcases hra.2 k hk with e | e; exact Nat.lt_of_lt_of_le (h3 k e) hra.1.size; exact e.2
      have hla := hra.1.heap h2 hl
      have hka := hra.1.heap h1 hk
      have hlta : w.heap.size + 1 < Wa.heap.size := (Array.getElem?_eq_some_iff.1 hla).1
      refine ⟨_, run_beginRound hla (by rw [hrec]), ?_⟩
      obtain ⟨Wb, hWb⟩ : ∃ Wb, Wb = Wa.putObj (w.heap.size + 1) (.loop { rec .ready none with state := .busy }) := ⟨_, rfl⟩
      rw [← hWb]
      have hlb : Wb.heap[w.heap.size + 1]? = some (.loop { rec .ready none with state := .busy }) := by rw [hWb]; exact World.putObj_heap_same hlta
      have hkb : Wb.heap[w.heap.size]? = some (.deferred (some [])) := by rw [hWb]; exact (World.putObj_heap_other (by omega)).trans hka
      have sb : Steps (fun k => k < w.heap.size ∨ Ca k) Wa Wb := by rw [hWb]; exact Steps.putObj _ _ _ _ (by rintro (e | e); omega; exact h2a e)
      have rb : Round (Cj Ca) Wa (Cj Ca) Wb := ⟨by rw [hWb]; exact Steps.putObj _ _ _ _ (fun e => e (.inr (.inr rfl))), fun k hk => .inl hk⟩
      have hib := hI _ _ _ _ hia (by omega) sb
      have haxb := hAx x a' () _ _ _ hax (by omega) sb
      have hzb : Wb.heap.size = Wa.heap.size := by rw [hWb]; simp
      have ra : Round (Cj C) W (Cj Ca) Wa := ⟨hra.1.mono (fun k _ hk e => hk (.inl e)), fun k hk => by
        rcases hk with hk | hk
        · rcases hra.2 k hk with e | e; exact .inl (.inl e); exact .inr e
        · exact .inl (.inr hk)⟩
      have rab := ra.trans rb
      refine wpIn_mono (hbody _ pre x a' Ca Wb hib haxb hpre (fun k hk => by rw [hzb]; exact h3a k hk) (by omega)) ?_
      have fin : ∀ (jump : Option Code) (C3 : Nat → Prop) (W3 : World), Round Ca Wb C3 W3 →
          (Instr.endRound (w.heap.size + 1) jump).run P W3 = .ok (.bool jump.isNone) (W3.putObj (w.heap.size + 1) (.loop (rec (if jump.isNone then .ready else .done) jump))) ∧
          (W3.putObj (w.heap.size + 1) (.loop (rec (if jump.isNone then .ready else .done) jump))).heap[w.heap.size + 1]? = some (.loop (rec (if jump.isNone then .ready else .done) jump)) ∧
          (W3.putObj (w.heap.size + 1) (.loop (rec (if jump.isNone then .ready else .done) jump))).heap[w.heap.size]? = some (.deferred (some [])) ∧
          Steps (fun k => k < w.heap.size ∨ C3 k) W3 (W3.putObj (w.heap.size + 1) (.loop (rec (if jump.isNone then .ready else .done) jump))) ∧
          Round (Cj C) W (Cj C3) (W3.putObj (w.heap.size + 1) (.loop (rec (if jump.isNone then .ready else .done) jump))) ∧
          (¬ C3 w.heap.size ∧ ¬ C3 (w.heap.size + 1) ∧ ∀ k, C3 k → k < W3.heap.size) ∧ w.heap.size ≤ W3.heap.size := fun jump C3 W3 hr3 => by
        have h13 : ¬ C3 w.heap.size := fun e => by rcases hr3.2 _ e with e | e; exact h1a e; omega
        have h23 : ¬ C3 (w.heap.size + 1) := fun e => by rcases hr3.2 _ e with e | e; exact h2a e; omega
        have hl3 := hr3.1.heap h2a hlb
        have hk3 := hr3.1.heap h1a hkb
        have := run_endRound (P := P) jump hl3
        have hlt3 := (Array.getElem?_eq_some_iff.1 hl3).1
        rw [hrec] at this ⊢
        refine ⟨this, World.putObj_heap_same hlt3, (World.putObj_heap_other (by omega)).trans hk3, Steps.putObj _ _ _ _ (by rintro (e | e); omega; exact h23 e), ?_, ⟨h13, h23, fun k hk => by rcases hr3.2 k hk with e | e; exact Nat.lt_of_lt_of_le (by rw [hzb]; exact h3a k e) hr3.1.size; exact e.2⟩, by omega⟩
        refine (rab.trans (C'' := Cj C3) (D := W3) ⟨hr3.1.mono (fun k _ hk e => hk (.inl e)), fun k hk => ?_⟩).trans ⟨Steps.putObj _ _ _ _ (fun e => e (.inr (.inr rfl))), fun k hk => .inl hk⟩
        rcases hk with hk | hk
        · rcases hr3.2 k hk with e | e; exact .inl (.inl e); exact .inr e
        · exact .inl (.inr hk)
      rintro e a3 W3 hp
      cases e with
      | normal =>
        obtain ⟨C3, hr3, hi3⟩ := hp
        obtain ⟨hr, hl4, hk4, s4, r4, ⟨b1, b2, b3⟩, b4⟩ := fin none C3 W3 hr3
        exact ⟨_, _, hr, Cj C3, r4, .inl ⟨rfl, C3, rfl, hI _ _ _ _ hi3 b4 s4, ⟨b1, b2, fun k hk => by simpa using b3 k hk⟩, hl4, hk4⟩⟩
      | ret =>
        obtain ⟨C3, hr3, hi3⟩ := hp
        obtain ⟨hr, hl4, hk4, s4, r4, ⟨b1, b2, b3⟩, b4⟩ := fin (some .ret) C3 W3 hr3
        exact ⟨_, _, hr, Cj C3, r4, .inr ⟨rfl, C3, .ret, rfl, hIx _ _ _ _ _ hi3 b4 s4, ⟨b1, b2, fun k hk => by simpa using b3 k hk⟩, hl4, hk4⟩⟩
      | exit id =>
        obtain ⟨C3, hr3, hi3⟩ := hp
        obtain ⟨hr, hl4, hk4, s4, r4, ⟨b1, b2, b3⟩, b4⟩ := fin (some (.exit id)) C3 W3 hr3
        exact ⟨_, _, hr, Cj C3, r4, .inr ⟨rfl, C3, .exit id, rfl, hIx _ _ _ _ _ hi3 b4 s4, ⟨b1, b2, fun k hk => by simpa using b3 k hk⟩, hl4, hk4⟩⟩
      | goto t =>
        obtain ⟨C3, hr3, hi3⟩ := hp
        obtain ⟨hr, hl4, hk4, s4, r4, ⟨b1, b2, b3⟩, b4⟩ := fin (some (.goto t)) C3 W3 hr3
        exact ⟨_, _, hr, Cj C3, r4, .inr ⟨rfl, C3, .goto t, rfl, hIx _ _ _ _ _ hi3 b4 s4, ⟨b1, b2, fun k hk => by simpa using b3 k hk⟩, hl4, hk4⟩⟩
      | panic ch => exact hp.elim
      | outgrown => exact hp.elim
    · exact ⟨C0, rfl, hI1, ⟨fun e => by have := (hC0 _ e).2; omega, fun e => by have := (hC0 _ e).2; omega, fun k hk => by have := (hC0 _ hk).2; omega⟩, hL1, hK1⟩
    · -- behind the iterator
      rintro e W2 ⟨⟨v, rfl⟩, _, (⟨C, rfl, hi, ⟨h1, h2, h3⟩, hl, hk⟩ | ⟨pre, C, c, rfl, hi, ⟨h1, h2, h3⟩, hl, hk⟩)⟩
      · have hlt := (Array.getElem?_eq_some_iff.1 hl).1
        have sp : ∀ o, Steps (fun k => k < w.heap.size ∨ C k) W2 (W2.putObj (w.heap.size + 1) o) := fun o => Steps.putObj _ _ _ _ (by rintro (e | e); omega; exact h2 e)
        exact ⟨none, _, by have := run_endLoop (P := P) hl (by rw [hrec]; simp); rw [hrec] at this; exact this, hdone _ C _ (Nat.le_refl _) h1 (hI _ _ _ _ hi (by omega) (sp _)) ((World.putObj_heap_other (by omega)).trans hk)⟩
      · have hlt := (Array.getElem?_eq_some_iff.1 hl).1
        have sp : ∀ o, Steps (fun k => k < w.heap.size ∨ C k) W2 (W2.putObj (w.heap.size + 1) o) := fun o => Steps.putObj _ _ _ _ (by rintro (e | e); omega; exact h2 e)
        exact ⟨some c, _, by have := run_endLoop (P := P) hl (by rw [hrec]; simp); rw [hrec] at this; exact this, hstop _ c pre C _ (Nat.le_refl _) h1 (hIx _ _ _ _ _ hi (by omega) (sp _)) ((World.putObj_heap_other (by omega)).trans hk)⟩

/-- the same, where the assignment makes no memory -/
theorem wpIn_rangeRF {P : Program} {n : Nat} {α : Type} {g : Operand} {ps : Array Tmp} {assign body : Code} {Q : Exit → Act → World → Prop} {a : Act} {w : World} (f : α → Array Value → Array Value)
    {gf : Nat} {lb : Array Value} (hg : a.eval g = .func (.func gf) #[] lb) (eg : ∀ args w, (callFunc gf args).run P w = .ok (.enter gf args) w)
    {encs : α → Array Value} {L : List α} {A : Nat → Prop} {w0 : World} {RD : List α → α → List α → World → Prop} (hseq : SeqOfR RD P gf lb encs L A w0) (hb0 : Below w0.heap.size w0 w) (hps : ∀ x, (encs x).size = ps.size)
    (I : List α → (Nat → Prop) → World → Prop) (Ix : Code → List α → (Nat → Prop) → World → Prop) (C0 : Nat → Prop) (hC0 : ∀ k, C0 k → (A k ∨ w0.heap.size ≤ k) ∧ k < w.heap.size)
    (hI : Bears w.heap.size I) (hIx : ∀ c, Bears w.heap.size (Ix c)) (h0 : I [] C0 w) (hRD : ∀ pre x post C W, pre ++ x :: post = L → I pre C W → RD pre x post W)
    (hassign : ∀ (l : Nat) (x : α) (W : World) (K : Act → World → Prop), K { tmps := f x a.tmps, defers := [] } W →
      assign.wpIn (Fence.wide.inRound l) (n - 1 - 1) P (Exit.then K (fun _ _ _ => False)) { tmps := (ps.zip (encs x)).foldl (fun t (p, v) => t.setIfInBounds p v) a.tmps, defers := [] } W)
    (hbody : ∀ (l : Nat) (pre : List α) (x : α) (C : Nat → Prop) (W : World), I pre C W → pre ++ [x] <+: L → (∀ k, C k → k < W.heap.size) → w.heap.size ≤ W.heap.size →
      body.wpIn (Fence.wide.inRound l) (n - 1 - 1) P (rPost I Ix (pre ++ [x]) C W) { tmps := f x a.tmps, defers := [] } W)
    (hdone : ∀ (D : Nat) (C : Nat → Prop) (W : World), w.heap.size ≤ D → ¬ C D → I L C W → W.heap[D]? = some (.deferred (some [])) → Q .normal { a with defers := { target := .collected D, args := #[] } :: a.defers } W)
    (hstop : ∀ (D : Nat) (c : Code) (pre : List α) (C : Nat → Prop) (W : World), w.heap.size ≤ D → ¬ C D → Ix c pre C W → W.heap[D]? = some (.deferred (some [])) → c.wpIn Fence.wide n P Q { a with defers := { target := .collected D, args := #[] } :: a.defers } W) :
    (Code.rangeFunc g ps assign body).wpIn Fence.wide n P Q a w :=
  wpIn_rangeR hg eg hseq hb0 hps I Ix C0 hC0 hI hIx h0 hRD (fun x a' _ _ => a' = { tmps := f x a.tmps, defers := [] }) (fun _ _ _ _ _ _ h _ _ => h)
    (fun l pre x C W K hi _ _ _ hK => hassign l x W K (hK _ C W (Round.refl C W) hi rfl))
    (fun l pre x a' C W hi ha hp hc hz => by subst ha; exact hbody l pre x C W hi hp hc hz) hdone hstop
end Go.Proofs.YtohpaoleomcimaaGreat.rng
/-!   Package book: nodes by their order, gone through by one that writes them. (Written by gen_boke.py.)
-/
namespace Go.Proofs.YtohpaoleomcimaaGreat.bk
open Go.RowKit Go.Shelf aid mem rng
attribute [local go_sem] Oper.semAt_some
set_option linter.unusedVariables false
set_option linter.unusedSimpArgs false

/-- what must stand of a node when it is come to -/
def RDn (_pre : List Nd) (x : Nd) (post : List Nd) (W : World) : Prop := W.cell? ⟨x.1, 3, none⟩ = some (.int .i64 x.2.order) ∧ W.cell? ⟨x.1, 8, none⟩ = some (pA (hd none post))
set_option maxRecDepth 100000 in
set_option maxHeartbeats 4000000 in
theorem inorder1_seqB {w : World} {B bx : Nat} {L : List Nd} {A : Nat → Prop} (h : Lr w B L) (ho : Ord L) (hx : w.cell? ⟨bx, 0, none⟩ = some (.pointer (some ⟨B, 0, none⟩))) :
    SeqOfR RDn Tryz.prog 99 #[.pointer (some ⟨bx, 0, none⟩)] nE L A w := by
  intro l J Jx C0 W hW hC hJ hJx hY hRD h0
  have c1 := ck hW hx
  have hlr := h.later hW
  have i0 : It C0 W C0 W := It.refl (fun k hk => (hC k hk).2)
  have hend : ∃ E, ∀ L' y, L = L' ++ [y] → y.2.order = E := by
    rcases List.eq_nil_or_concat L with rfl | ⟨L', y, rfl⟩
    · exact ⟨0, fun L' y e => by simp at e⟩
    · refine ⟨y.2.order, fun L2 z e => ?_⟩
      rw [List.concat_eq_append] at e
      have := (List.append_inj' e rfl).2
      simp at this
      rw [this]
  obtain ⟨E, hE⟩ := hend
  have hE2 : ∀ x ∈ L, x.2.order ≤ E := by
    intro x hx'
    rcases List.eq_nil_or_concat L with rfl | ⟨L', y, rfl⟩
    · simp at hx'
    · rw [List.concat_eq_append] at *
      have := hE L' y rfl
      rw [← this]
      exact ord_last ho rfl x hx'
  have hcl : Cl W C0 l J Jx L E := ⟨hY, fun pre x post C W1 hp hj hI => by
    have hm : x ∈ L := by rw [← hp]; simp
    obtain ⟨k3, k8⟩ := hRD pre x post C W1 hp (by assumption)
    exact ⟨k3, k8, hE2 x hm⟩, h.nd⟩
  have HR := Lib.hid (nodes_any hcl hlr.c4 hlr.c5 (fun L' y e => by
    have hn := seg_at (pre := L') (post := []) hlr.sg e.symm
    obtain ⟨_, _, _, k3, _⟩ := hn.cs
    rw [k3, hE L' y e]) h0 i0)
  clear hcl hlr i0 hJ hJx hY h0 hC hW hx h hE hE2 hRD
  show Calls Tryz.prog 99 #[.func (.yield l) #[] #[], .pointer (some ⟨bx, 0, none⟩)] W _
  go_enter Tryz.func99, Tryz.ntmps99
  go_wp2_with (go_at_call 100; (with_reducible refine HR.out.mono ?_); rintro e w3 ⟨⟨v, rfl⟩, C', hI, hq⟩; clear hI)
  all_goals
    go_end0
    exact ⟨⟨_, rfl⟩, C', hq⟩
theorem inorder1_none {w : World} {bx : Nat} {A : Nat → Prop} (hx : w.cell? ⟨bx, 0, none⟩ = some (.pointer none)) :
    SeqOfR RDn Tryz.prog 99 #[.pointer (some ⟨bx, 0, none⟩)] nE [] A w := by
  intro l J Jx C0 W hW hC hJ hJx hY hRD h0
  have c1 := ck hW hx
  have H0 := Lib.hid h0
  clear hJ hJx hY hRD h0 hC hW hx
  show Calls Tryz.prog 99 #[.func (.yield l) #[] #[], .pointer (some ⟨bx, 0, none⟩)] W _
  go_enter Tryz.func99, Tryz.ntmps99
  go_wp2
  go_end0
  exact ⟨⟨_, rfl⟩, C0, .inl H0.out⟩
/-- a line, or none -/
def LrO (w : World) (p : Option Addr) (L : List Nd) : Prop := (p = none ∧ L = []) ∨ ∃ B, p = some ⟨B, 0, none⟩ ∧ Lr w B L
theorem LrO.later {w w' : World} {p : Option Addr} {L : List Nd} (h : LrO w p L) (hb : Below w.heap.size w w') : LrO w' p L := by
  rcases h with h | ⟨B, h1, h2⟩
  · exact .inl h
  · exact .inr ⟨B, h1, h2.later hb⟩
theorem BO.lr {w : World} {p : Option Addr} {N L : List Nd} (h : BO w p N L) : LrO w p L := by
  rcases h with ⟨h1, _, h2⟩ | ⟨B, T, s, h1, h2⟩
  · exact .inl ⟨h1, h2⟩
  · exact .inr ⟨B, h1, h2.ln.lr⟩
theorem inorder1_seqR {w : World} {p : Option Addr} {bx : Nat} {L : List Nd} {A : Nat → Prop} (h : LrO w p L) (ho : Ord L) (hx : w.cell? ⟨bx, 0, none⟩ = some (.pointer p)) :
    SeqOfR RDn Tryz.prog 99 #[.pointer (some ⟨bx, 0, none⟩)] nE L A w := by
  rcases h with ⟨rfl, rfl⟩ | ⟨B, rfl, h⟩
  · exact inorder1_none hx
  · exact inorder1_seqB h ho hx
theorem inorder_call (p : Option Addr) (w : World) : Calls Tryz.prog 63 #[.pointer p] w fun e w' => e = .returned (.func (.func 99) #[] #[.pointer (some ⟨w.heap.size, 0, none⟩)]) ∧ w' = w.alloc (.cells #[.pointer p] 28) := by
  go_enter Tryz.func63, Tryz.ntmps63
  go_wp2_with fail
  go_ret
  exact ⟨rfl, rfl⟩
end Go.Proofs.YtohpaoleomcimaaGreat.bk
/-!   Package book: records' own calls, once more; what is changed of a line, as lists.
-/
namespace Go.Proofs.YtohpaoleomcimaaGreat.bk
open Go.RowKit Go.Shelf aid mem rng
attribute [local go_sem ↓] Go.wp_at_zero Go.wp_at_succ
attribute [local go_sem] Oper.semAt_some
set_option linter.unusedVariables false
set_option linter.unusedSimpArgs false

def Rc.spare (r : Rc) : Rc := if r.lost then ⟨r.f, r.t, r.sent, r.order, r.times, 1, false⟩ else r
theorem spare_any {w : World} {b : Nat} {r : Rc} {a z : Option Nat} (h : NdAt w b r a z) : Calls Tryz.prog 76 #[.pointer (some ⟨b, 0, none⟩)] w fun e w' => e = .returned (.bool r.lost) ∧ NdAt w' b r.spare a z ∧ Kept [b] w w' := by
  have HB := Lib.hid h
  obtain ⟨c0, c1, c2, c3, c4, c5, c6, c7, c8⟩ := h.cs
  have f5 := h.f 5; have f6 := h.f 6
  clear h
  obtain ⟨rf, rt, rs, ro, rm, ru, rl⟩ := r
  cases rl
  · go_enter Tryz.func76, Tryz.ntmps76
    go_wp2_with fail
    go_ret
    exact ⟨rfl, HB.out, Kept.refl _ _⟩
  · go_enter Tryz.func76, Tryz.ntmps76
    go_wp2_with fail
    go_ret
    exact ⟨rfl, (setp (setp HB.out _) _).trans rfl, ((Kept.refl [b] w).setCell (.inl (by simp)) _).setCell (.inl (by simp)) _⟩
/-! ### lists -/
def mapN (f : Rc → Rc) (N : List Nd) : List Nd := N.map (fun x => (x.1, f x.2))
/-- some of them are changed -/
def chN (f : Rc → Rc) (pre N : List Nd) : List Nd := N.map (fun x => if x.1 ∈ pre.map (·.1) then (x.1, f x.2) else x)
theorem chN_nil (f : Rc → Rc) (N : List Nd) : chN f [] N = N := by simp [chN]
theorem chN_all {f : Rc → Rc} {L N : List Nd} (h : ∀ x ∈ N, x.1 ∈ L.map (·.1)) : chN f L N = mapN f N := by
  unfold chN mapN
  exact List.map_congr_left (fun x hx => by rw [if_pos (h x hx)])
theorem chN_mid {f : Rc → Rc} {pre N1 N2 : List Nd} {x : Nd} (hn : ((N1 ++ x :: N2).map (·.1)).Nodup) (hx : x.1 ∉ pre.map (·.1)) :
    chN f pre (N1 ++ x :: N2) = chN f pre N1 ++ x :: chN f pre N2 ∧ chN f (pre ++ [x]) (N1 ++ x :: N2) = chN f pre N1 ++ (x.1, f x.2) :: chN f pre N2 := by
  rw [List.map_append, List.map_cons] at hn
  obtain ⟨n1, n2, n3⟩ := List.nodup_append.1 hn
  have k2 := (List.nodup_cons.1 n2).1
  have h1 : ∀ y ∈ N1, y.1 ≠ x.1 := fun y hy e => n3 y.1 (List.mem_map.2 ⟨y, hy, rfl⟩) x.1 (by simp) e
  have h2 : ∀ y ∈ N2, y.1 ≠ x.1 := fun y hy e => k2 (List.mem_map.2 ⟨y, hy, e⟩)
  have key : ∀ M : List Nd, (∀ y ∈ M, y.1 ≠ x.1) → chN f (pre ++ [x]) M = chN f pre M := fun M hM => by
    unfold chN
    refine List.map_congr_left (fun y hy => ?_)
    have := hM y hy
    simp only [List.map_append, List.map_cons, List.map_nil, List.mem_append, List.mem_singleton, this, or_false]
  have e1 : ∀ (q M M' : List Nd) (z : Nd), chN f q (M ++ z :: M') = chN f q M ++ (if z.1 ∈ q.map (·.1) then (z.1, f z.2) else z) :: chN f q M' := fun q M M' z => by simp [chN]
  refine ⟨by rw [e1, if_neg hx], ?_⟩
  rw [e1, key N1 h1, key N2 h2, if_pos (by simp)]
/-! ### a record's method, through the pointer to its node -/
theorem row_lose : (Tryz.prog.info? 92).bind (fun i => (i.methods.find? (fun m => m.name == "undertow/book.lose")).map (fun m => (m.path, m.func))) = some (#[⟨102, 0, true⟩], some (74, true)) := by kernel_rfl
theorem row_spare : (Tryz.prog.info? 92).bind (fun i => (i.methods.find? (fun m => m.name == "undertow/book.spare")).map (fun m => (m.path, m.func))) = some (#[⟨102, 0, true⟩], some (76, true)) := by kernel_rfl
theorem sz_rc : Tryz.t50.size = 7 := by kernel_rfl
theorem typeInfo_run {t : TypeId} {i : TypeInfo} {w : World} (h : Tryz.prog.info? t = some i) : (typeInfo t).run Tryz.prog w = .ok i w := by
  simp [typeInfo, h]
theorem meth_node {b : Nat} {w : World} {name : String} {f : Nat}
    (hrow : (Tryz.prog.info? 92).bind (fun i => (i.methods.find? (fun m => m.name == name)).map (fun m => (m.path, m.func))) = some (#[⟨102, 0, true⟩], some (f, true)))
    (n : Nat) : (method (n + 1) 92 (.pointer (some ⟨b, 0, none⟩)) name).run Tryz.prog w = .ok (f, .pointer (some ⟨b, 0, none⟩)) w := by
  obtain ⟨i, hi, hrow⟩ := Option.bind_eq_some_iff.1 hrow
  obtain ⟨m, hm, he⟩ := Option.map_eq_some_iff.1 hrow
  obtain ⟨nm, sg, path, fn⟩ := m
  simp only [Prod.mk.injEq] at he
  obtain ⟨rfl, rfl⟩ := he
  unfold method
  simp [typeInfo_run hi, hm, follow, underlying, Tryz.underlying102, Place.get, loadVar, isAgg, fieldPlace, Go.sizeOf, receiverAt, asAddr, run_load, Addr.add, sz_rc]
end Go.Proofs.YtohpaoleomcimaaGreat.bk
/-!   Package book: all nodes changed (changed).
-/
namespace Go.Proofs.YtohpaoleomcimaaGreat.bk
open Go.RowKit Go.Shelf aid mem rng
attribute [local go_sem] Oper.semAt_some
set_option linter.unusedVariables false
set_option linter.unusedSimpArgs false

/-- a change keeps where a record lies and its order -/
structure Fx (g : Rc → Rc) : Prop where
  f : ∀ r, (g r).f = r.f
  t : ∀ r, (g r).t = r.t
  o : ∀ r, (g r).order = r.order
theorem fx_lose : Fx Rc.lose := ⟨fun _ => rfl, fun _ => rfl, fun _ => rfl⟩
theorem fx_spare : Fx Rc.spare := ⟨fun r => by unfold Rc.spare; split <;> rfl, fun r => by unfold Rc.spare; split <;> rfl, fun r => by unfold Rc.spare; split <;> rfl⟩
/-- how many are told -/
def cnt (c : Rc → Bool) (l : List Nd) : Nat := (l.filter (fun x => c x.2)).length
theorem cnt_snoc (c : Rc → Bool) (l : List Nd) (x : Nd) : cnt c (l ++ [x]) = cnt c l + (if c x.2 then 1 else 0) := by
  unfold cnt
  rw [List.filter_append, List.length_append]
  cases h : c x.2 <;> simp [List.filter, h]
theorem cnt_le (c : Rc → Bool) (l : List Nd) : cnt c l ≤ l.length := List.length_filter_le _ _
theorem Ln.one {w w' : World} {B T n : Nat} {s : Hd} {P Q : List Nd} {r r' : Rc} (h : Ln w B s T (P ++ (n, r) :: Q)) (hk : Kept [n] w w') (hn : NdAt w' n r' (la none P) (hd none Q)) : Ln w' B s T (P ++ (n, r') :: Q) := by
  obtain ⟨d1, d2, d3, d4⟩ := nodup_mid h.nd
  obtain ⟨s1, _, s3⟩ := seg_append.1 h.sg
  have hnB : n ≠ B := h.nB (n, r) (by simp)
  have e1 : hd none (P ++ (n, r') :: Q) = hd none (P ++ (n, r) :: Q) := by rw [hd_append, hd_append]; rfl
  have e2 : la none (P ++ (n, r') :: Q) = la none (P ++ (n, r) :: Q) := by rw [la_append, la_append]; rfl
  refine ⟨?_, ?_, ?_, ?_⟩
  · rw [e1, e2]; exact h.bk.keep hk (by simpa using Ne.symm hnB)
  · exact seg_append.2 ⟨seg_kept hk (fun x hx => by simpa using d2 x hx) s1, hn, seg_kept hk (fun x hx => by simpa using d3 x hx) s3⟩
  · have := h.nd
    simpa using this
  · intro x hx
    rcases List.mem_append.1 hx with hx | hx
    · exact h.nB x (by simp [hx])
    · rcases List.mem_cons.1 hx with rfl | hx
      · exact hnB
      · exact h.nB x (by simp [hx])
/-- where the blocks of a line lie as they lay -/
theorem Ln.same {w w' : World} {B T : Nat} {s : Hd} {L : List Nd} (h : Ln w B s T L) (n : Nat) (hB : B < n) (hL : ∀ x ∈ L, x.1 < n) (hs : ∀ k, k < n → k < w.heap.size → w'.heap[k]? = w.heap[k]?) : Ln w' B s T L :=
  ⟨(hs B hB (lt_of_block h.bk)).trans h.bk, seg_keep (fun x hx o ho => (hs x.1 (hL x hx) (lt_of_block ho)).trans ho) h.sg, h.nd, h.nB⟩
/-- between two rounds -/
structure CI (w : World) (B T : Nat) (s : Hd) (L : List Nd) (f : Rc → Rc) (c : Rc → Bool) (fv : Value) (pre : List Nd) (C : Nat → Prop) (X : World) : Prop where
  ln : ∃ post, L = pre ++ post ∧ Ln X B s T (mapN f pre ++ post)
  cb : X.heap[w.heap.size + 1]? = some (.cells #[.int .i64 (cnt c pre : Int)] 3 (0, 0))
  fb : X.heap[w.heap.size]? = some (.cells #[fv] 126 (0, 0))
  c1 : C (w.heap.size + 1)
  cL : ∀ x ∈ L, C x.1
  kept : Kept (L.map (·.1)) w X
theorem ci_bears {w : World} {B T : Nat} {s : Hd} {L : List Nd} {f : Rc → Rc} {c : Rc → Bool} {fv : Value} {n : Nat} (hn : w.heap.size + 1 < n) (hB : B < w.heap.size) (hL : ∀ x ∈ L, x.1 < w.heap.size) : Bears n (CI w B T s L f c fv) := by
  rintro pre C X Y h hz hs
  obtain ⟨post, e, hln⟩ := h.ln
  refine ⟨⟨post, e, hln.same w.heap.size hB (fun x hx => ?_) (fun k hk hkX => hs.same k hkX (.inl (by omega)))⟩, hs.heap (.inl (by omega)) h.cb, hs.heap (.inl (by omega)) h.fb, h.c1, h.cL, ?_⟩
  · rcases List.mem_append.1 hx with hx | hx
    · obtain ⟨y, hy, rfl⟩ := List.mem_map.1 hx
      exact hL y (by rw [e]; simp [hy])
    · exact hL x (by rw [e]; simp [hx])
  · have hb : Below w.heap.size X Y := hs.below h.kept.size (fun k hk => .inl (by omega))
    exact ⟨hb.os.trans h.kept.os, hb.tape.trans h.kept.tape, hb.output.trans h.kept.output, Nat.le_trans h.kept.size hs.size, fun k hk hk' => (hb.block k hk).trans (h.kept.block k hk hk')⟩
/-- all are changed -/
theorem Bk.mapped {w w' : World} {B T : Nat} {s : Hd} {N L : List Nd} {f : Rc → Rc} (h : Bk w B T s N L) (hf : Fx f) (hk : Kept (L.map (·.1)) w w') (hl : Ln w' B s T (mapN f L)) : Bk w' B T s (mapN f N) (mapN f L) := by
  obtain ⟨t, t1, t2⟩ := h.tr
  refine ⟨hl, ⟨t, tr_kept t1 hk (fun e => ?_) (fun k hk' _ cs => h.notree k (by unfold fp; simp [hk']) cs), ?_⟩, h.tb, fun x hx => ?_, h.perm.map _, ⟨fun x hx => ?_, ?_⟩, h.n0⟩
  · obtain ⟨x, hx, e⟩ := List.mem_map.1 e
    exact h.tl x hx e
  · rw [t2]
    unfold kvN mapN
    rw [List.map_map]
    exact List.map_congr_left (fun x hx => by simp [hf.f])
  · obtain ⟨y, hy, rfl⟩ := List.mem_map.1 hx
    exact h.tl y hy
  · obtain ⟨y, hy, rfl⟩ := List.mem_map.1 hx
    have := h.up.ok y hy
    simp only [hf.f, hf.t]
    exact this
  · unfold mapN
    rw [List.pairwise_map]
    exact h.up.up.imp (fun {a b} hab => by simp only [hf.f, hf.t]; exact hab)
set_option maxRecDepth 100000 in
set_option maxHeartbeats 8000000 in
theorem changed_lose {w : World} {B T : Nat} {s : Hd} {L : List Nd} (h : Ln w B s T L) (ho : Ord L) (hn : L.length ≤ 1000000) :
    Calls Tryz.prog 75 #[.pointer (some ⟨B, 0, none⟩), .func (.methodOf 92 "undertow/book.lose") #[] #[]] w fun e w' => e = .returned (.int .i64 (cnt (fun r => !r.lost) L : Int)) ∧ Ln w' B s T (mapN Rc.lose L) ∧ Kept (L.map (·.1)) w w' := by
  have hB := lt_of_block h.bk
  have hL : ∀ x ∈ L, x.1 < w.heap.size := fun x hx => h.lt hx
  obtain ⟨W2, hW2⟩ : ∃ W2, W2 = (w.alloc (.cells #[.func (.methodOf 92 "undertow/book.lose") #[] #[]] 126)).alloc (.cells #[.int .i64 0] 3) := ⟨_, rfl⟩
  have b2 : Below w.heap.size w W2 := by rw [hW2]; exact ((Below.refl _ _).alloc (Nat.le_refl _) _).alloc (by simp) _
  have z2 : W2.heap.size = w.heap.size + 2 := by rw [hW2]; simp
  have b3 := al W2 (.cells #[.pointer (some ⟨B, 0, none⟩)] 28)
  have y3 := cofr (heap_alloc_new W2 (.cells #[.pointer (some ⟨B, 0, none⟩)] 28)) 0 _ rfl
  have b23 := b2.trans (b3.mono b2.size)
  have hI0 : CI w B T s L Rc.lose (fun r => !r.lost) (.func (.methodOf 92 "undertow/book.lose") #[] #[]) [] (fun k => k = w.heap.size + 1 ∨ k ∈ L.map (·.1)) (W2.alloc (.cells #[.pointer (some ⟨B, 0, none⟩)] 28)) := by
    refine ⟨⟨L, rfl, h.later b23⟩, ?_, ?_, .inl rfl, fun x hx => .inr (List.mem_map.2 ⟨x, hx, rfl⟩), Kept.of_below b23 (Nat.le_refl _) _⟩
    · refine (b3.block _ (by omega)).trans ?_
      rw [hW2]
      have := heap_alloc_new (w.alloc (.cells #[.func (.methodOf 92 "undertow/book.lose") #[] #[]] 126)) (.cells #[.int .i64 0] 3)
      rw [World.size_alloc] at this
      exact this
    · refine (b3.block _ (by omega)).trans ?_
      rw [hW2]
      exact ((al _ _).block w.heap.size (by simp only [World.size_alloc]; omega)).trans (heap_alloc_new w _)
  have HSEQ := Lib.hid (inorder1_seqR (A := fun _ => True) (bx := W2.heap.size) (.inr ⟨B, rfl, (h.later b23).lr⟩) ho y3)
  have HI := Lib.hid hI0
  have HLL := Lib.hid hL
  clear h hI0 y3 hL
  refine (callsIn_wide (n := 6)).1 ?_
  refine callsIn_of_wp_marks Tryz.func75 rfl trivial ?_ rfl
  simp only [Tryz.ntmps75, List.size_toArray, List.length_cons, List.length_nil, Nat.reduceAdd, Nat.reduceSub, Array.replicate_succ, Array.replicate_zero, List.push_toArray, List.append_toArray, List.nil_append, List.cons_append]
  gi_wp2
  rw [← hW2]
  clear hW2
  refine ⟨trivial, ?_⟩
  refine (callsIn_wide.2 (inorder_call _ _)).mono ?_
  rintro e w3 ⟨rfl, rfl⟩
  have hz3 : (W2.alloc (.cells #[.pointer (some ⟨B, 0, none⟩)] 28)).heap.size = w.heap.size + 3 := by simp [z2]
  generalize W2.alloc (.cells #[.pointer (some ⟨B, 0, none⟩)] 28) = W3 at *
  clear b2 b3 b23 z2
  gi_wp2
  refine wpIn_rangeRF (fun (y : Nd) (t : Array Value) => (t.setIfInBounds 9 (.pointer (some ⟨y.1, 0, none⟩))).setIfInBounds 6 (.pointer (some ⟨y.1, 0, none⟩))) (gf := 99) (lb := #[.pointer (some ⟨W2.heap.size, 0, none⟩)]) (L := L) (A := fun _ => True) (w0 := W3) (encs := nE) rfl eg_in HSEQ.out (Below.refl _ _) (fun _ => rfl)
    (CI w B T s L Rc.lose (fun r => !r.lost) (.func (.methodOf 92 "undertow/book.lose") #[] #[])) (fun _ _ _ _ => False) (fun k => k = w.heap.size + 1 ∨ k ∈ L.map (·.1)) ?hc0 (ci_bears (by omega) hB HLL.out) (fun _ _ _ _ _ h _ _ => h.elim) HI.out ?hRD ?assign ?body ?done ?stop
  case hc0 =>
    intro k hk
    refine ⟨.inl trivial, ?_⟩
    rcases hk with rfl | hk
    · omega
    · obtain ⟨x, hx, rfl⟩ := List.mem_map.1 hk
      have := HLL.out x hx
      omega
  case hRD =>
    rintro pre x post C X e h
    obtain ⟨post', e', hln⟩ := h.ln
    have : post' = x :: post := List.append_cancel_left (e'.symm.trans e.symm)
    rw [this] at hln
    have hnd := (seg_append.1 hln.sg).2.1
    obtain ⟨_, _, _, k3, _, _, _, _, k8⟩ := hnd.cs
    exact ⟨k3, k8⟩
  case assign =>
    intro l' x X K hK
    gi_wp2
    exact hK
  case body =>
    rintro l' pre x C X h hp hcc hzX
    have c2 := cofr h.fb 0 _ rfl
    have hmeth := fun W => meth_node (b := x.1) (w := W) row_lose 306
    obtain ⟨post, e, hln⟩ := h.ln
    obtain ⟨rest, e2⟩ := hp
    have e3 : post = x :: rest := by
      refine @List.append_cancel_left _ pre _ _ (e.symm.trans ?_)
      rw [← e2]; simp
    rw [e3] at hln
    have hnd := (seg_append.1 hln.sg).2.1
    have HN := Lib.hid hnd
    have hpl : pre.length < L.length := by rw [← e2]; simp
    have hcl := cnt_le (fun r => !r.lost) pre
    have hxL : x ∈ L := by rw [← e2]; simp
    have hx1 := HLL.out x hxL
    have ccb := cofr h.cb 0 _ rfl
    have HSTEP := Lib.hid (fun (Y : World) (hk : Kept [x.1] X Y) (hn : NdAt Y x.1 (Rc.lose x.2) (la none (mapN Rc.lose pre)) (hd none rest)) => show Ln Y B s T (mapN Rc.lose (pre ++ [x]) ++ rest) ∧ Kept (L.map (·.1)) w Y ∧ Y.heap[w.heap.size + 1]? = some (.cells #[.int .i64 (cnt (fun r => !r.lost) pre : Int)] 3 (0, 0)) ∧ Y.heap[w.heap.size]? = some (.cells #[.func (.methodOf 92 "undertow/book.lose") #[] #[]] 126 (0, 0)) from
      ⟨by have := hln.one hk hn; simpa [mapN] using this, h.kept.trans hk (fun k hk' => by simp at hk'; subst hk'; exact .inl (List.mem_map.2 ⟨x, hxL, rfl⟩)), hk.heap (by simp; omega) h.cb, hk.heap (by simp; omega) h.fb⟩)
    have HC1 := Lib.hid h.c1
    have HCX := Lib.hid (h.cL x hxL)
    have HCL := Lib.hid h.cL
    have HEX := Lib.hid (show L = (pre ++ [x]) ++ rest from by rw [← e2])
    have hxn : (x.1, x.2) = x := rfl
    cases hl : x.2.lost
    · have hcn : cnt (fun r => !r.lost) (pre ++ [x]) = cnt (fun r => !r.lost) pre + 1 := by rw [cnt_snoc]; simp [hl]
      have hw1 : IntKind.i64.wrap ((cnt (fun r => !r.lost) pre : Int) + 1) = (cnt (fun r => !r.lost) pre : Int) + 1 := IntWalk.i64_in _ (by omega)
      have HCALL := Lib.hid (fun (W : World) (hW : NdAt W x.1 x.2 (la none (mapN Rc.lose pre)) (hd none rest)) => show Calls Tryz.prog 74 #[.pointer (some ⟨x.1, 0, none⟩)] W fun e w' => e = .returned (.bool true) ∧ NdAt w' x.1 x.2.lose (la none (mapN Rc.lose pre)) (hd none rest) ∧ Kept [x.1] W w' from by have := lose_any hW; rw [hl] at this; exact this)
      have HCN := Lib.hid hcn
      clear h e e2 e3 hln hnd hcc hxL hcl hcn hl
      generalize cnt (fun r => !r.lost) pre = k at *
      simp only [List.setIfInBounds_toArray, List.set_cons_zero, List.set_cons_succ]
      gi_wp2
      refine ⟨trivial, ?_⟩
      refine (callsIn_wide.2 (HCALL.out _ HN.out)).mono ?_
      rintro e Y ⟨rfl, hn, hk⟩
      obtain ⟨q1, q2, q3, q4⟩ := HSTEP.out Y hk hn
      have g1 := cofr q3 0 _ rfl
      have g2 := fofr q3 0
      have hk2 : Kept [w.heap.size + 1] Y (Y.setCell ⟨w.heap.size + 1, 0, none⟩ (.int .i64 ((k : Int) + 1))) := (Kept.refl _ Y).setCell (.inl (by simp)) _
      have HE : Hid (∀ a' : Act, rPost (CI w B T s L Rc.lose (fun r => !r.lost) (.func (.methodOf 92 "undertow/book.lose") #[] #[])) (fun _ _ _ _ => False) (pre ++ [x]) C X .normal a' (Y.setCell ⟨w.heap.size + 1, 0, none⟩ (.int .i64 ((k : Int) + 1)))) := Lib.hid (fun a' =>
        ⟨C, (Round.of_kept hk (fun j hj => by simp at hj; subst hj; exact HCX.out)).trans (Round.of_kept hk2 (fun j hj => by simp at hj; subst hj; exact HC1.out)),
          ⟨rest, HEX.out, q1.kept hk2 (by simp; omega) (fun y hy => by
            simp only [List.mem_singleton]
            rcases List.mem_append.1 hy with hy | hy
            · obtain ⟨z, hz, rfl⟩ := List.mem_map.1 hy
              have := HLL.out z (by rw [HEX.out]; exact List.mem_append_left _ hz)
              simp only; omega
            · have := HLL.out y (by rw [HEX.out]; exact List.mem_append_right _ hy)
              omega)⟩,
          by rw [HCN.out]; exact (heap_setCell_same Y _ 0 _ _ _ q3).trans (by simp), hk2.heap (by simp) q4, HC1.out, HCL.out, q2.trans hk2 (fun j hj => by simp at hj; subst hj; exact .inr (by omega))⟩)
      clear q1 q2 q3 q4 hk hn hk2
      gi_wp2
      exact HE.out _
    · have hcn : cnt (fun r => !r.lost) (pre ++ [x]) = cnt (fun r => !r.lost) pre := by rw [cnt_snoc]; simp [hl]
      have HCALL := Lib.hid (fun (W : World) (hW : NdAt W x.1 x.2 (la none (mapN Rc.lose pre)) (hd none rest)) => show Calls Tryz.prog 74 #[.pointer (some ⟨x.1, 0, none⟩)] W fun e w' => e = .returned (.bool false) ∧ NdAt w' x.1 x.2.lose (la none (mapN Rc.lose pre)) (hd none rest) ∧ Kept [x.1] W w' from by have := lose_any hW; rw [hl] at this; exact this)
      have HCN := Lib.hid hcn
      clear h e e2 e3 hln hnd hcc hxL hcl hcn hl
      generalize cnt (fun r => !r.lost) pre = k at *
      simp only [List.setIfInBounds_toArray, List.set_cons_zero, List.set_cons_succ]
      gi_wp2
      refine ⟨trivial, ?_⟩
      refine (callsIn_wide.2 (HCALL.out _ HN.out)).mono ?_
      rintro e Y ⟨rfl, hn, hk⟩
      obtain ⟨q1, q2, q3, q4⟩ := HSTEP.out Y hk hn
      have HE : Hid (∀ a' : Act, rPost (CI w B T s L Rc.lose (fun r => !r.lost) (.func (.methodOf 92 "undertow/book.lose") #[] #[])) (fun _ _ _ _ => False) (pre ++ [x]) C X .normal a' Y) := Lib.hid (fun a' =>
        ⟨C, Round.of_kept hk (fun j hj => by simp at hj; subst hj; exact HCX.out), ⟨rest, HEX.out, q1⟩, by rw [HCN.out]; exact q3, q4, HC1.out, HCL.out, q2⟩)
      clear q1 q2 q3 q4 hk hn
      gi_wp2
      exact HE.out _
  case done =>
    rintro D C X hD hCD h hK
    have hbD : w.heap.size + 1 < D := by omega
    obtain ⟨post, e, hln⟩ := h.ln
    have e3 : post = [] := @List.append_cancel_left _ L _ _ (by rw [← e]; simp)
    rw [e3, List.append_nil] at hln
    have ccb := cofr h.cb 0 _ rfl
    have hk2 : Kept [D] X (X.putObj D (.deferred none)) := ⟨rfl, rfl, rfl, by simp, fun k _ hk' => World.putObj_heap_other (by simpa using hk')⟩
    have HK := Lib.hid hK
    have HF : Hid (Ln (X.putObj D (.deferred none)) B s T (mapN Rc.lose L) ∧ Kept (L.map (·.1)) w (X.putObj D (.deferred none))) := Lib.hid ⟨hln.kept hk2 (by simp; omega) (fun y hy => by
      obtain ⟨z, hz, rfl⟩ := List.mem_map.1 hy
      have := HLL.out z hz
      simp only [List.mem_singleton]; omega), h.kept.trans hk2 (fun j hj => by simp at hj; subst hj; exact .inr (by omega))⟩
    clear h e e3 hln hk2 hK HSEQ HI
    gi_wp2
    refine ⟨by simp, .inl ⟨_, _, rfl, run_takeDeferred HK.out, ?_⟩⟩
    exact ⟨.int .i64 (cnt (fun r => !r.lost) L : Int), by simp [results, Tryz.results75, go_sem], rfl, HF.out⟩
  case stop =>
    rintro D c pre C X _ _ h _
    exact h.elim
end Go.Proofs.YtohpaoleomcimaaGreat.bk
