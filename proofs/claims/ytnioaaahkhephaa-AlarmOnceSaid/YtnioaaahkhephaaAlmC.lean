/-
  Alarms: a clock's calls.
-/
import Derived.Test.YtnioaaahkhephaaAlmT
namespace Go.Proofs.Ytnioaaahkhephaa.al
open Go.RowKit Go.Maps aid mem
attribute [local go_sem ↓] Go.wp_at_zero Go.wp_at_succ
set_option linter.unusedVariables false
set_option linter.unusedSimpArgs false

/-- without a name -/
def rm (l : List Al) (a : Int) : List Al := l.filter (fun x => decide (x.1 ≠ a))
theorem rm_none {l : List Al} {a : Int} (h : ∀ x ∈ l, x.1 ≠ a) : rm l a = l := List.filter_eq_self.2 (fun x hx => decide_eq_true (h x hx))
theorem rm_cons {x : Al} {l : List Al} {a : Int} : rm (x :: l) a = if x.1 = a then rm l a else x :: rm l a := by
  unfold rm
  rw [List.filter_cons]
  by_cases h : x.1 = a
  · rw [if_neg (by simp [h]), if_pos h]
  · rw [if_pos (by simp [h]), if_neg h]
theorem rm_perm {l l' : List Al} (h : l.Perm l') (a : Int) : (rm l a).Perm (rm l' a) := h.filter _
theorem rm_head {x : Al} {l' l : List Al} (hp : (x :: l').Perm l) (hn : (l.map (·.1)).Nodup) : l'.Perm (rm l x.1) := by
  have h1 := rm_perm hp x.1
  rw [rm_cons, if_pos rfl] at h1
  have h2 : ((x :: l').map (·.1)).Nodup := nd_perm hp hn
  rw [List.map_cons, List.nodup_cons] at h2
  rw [rm_none (fun y hy e => h2.1 (List.mem_map.2 ⟨y, hy, e⟩))] at h1
  exact h1
theorem set_perm {l : List Al} {i : Nat} (hi : i < l.length) (t : Int) (hn : (l.map (·.1)).Nodup) : (l.set i ((g l i).1, t)).Perm (((g l i).1, t) :: rm l (g l i).1) := by
  have e : l.set i ((g l i).1, t) = l.take i ++ ((g l i).1, t) :: l.drop (i + 1) := by rw [List.set_eq_take_append_cons_drop, if_pos hi]
  have e2 : l = l.take i ++ g l i :: l.drop (i + 1) := by
    conv => lhs; rw [← List.take_append_drop i l]
    congr 1
    rw [List.drop_eq_getElem_cons hi]
    congr 1
    unfold g; simp [List.getD, hi]
  have hp : (g l i :: (l.take i ++ l.drop (i + 1))).Perm l := by
    conv => rhs; rw [e2]
    exact List.perm_middle.symm
  have h1 := rm_head hp hn
  rw [e]
  exact List.perm_middle.trans (List.Perm.cons _ h1)
/-- the names there may be, the times -/
def Okl (nm now : Int) (l : List Al) : Prop := (l.map (·.1)).Nodup ∧ ∀ x ∈ l, 0 ≤ x.1 ∧ x.1 < nm ∧ now ≤ x.2 ∧ x.2 ≤ 4611686018427387904
theorem Okl.wd {nm now : Int} {l : List Al} (h : Okl nm now l) (hn : nm ≤ 64) : Wd l := fun x hx => by have := h.2 x hx; omega
theorem Okl.perm {nm now : Int} {l l' : List Al} (h : Okl nm now l) (hp : l'.Perm l) : Okl nm now l' := ⟨nd_perm hp h.1, fun x hx => h.2 x (hp.mem_iff.1 hx)⟩
theorem Okl.rm {nm now : Int} {l : List Al} (h : Okl nm now l) (a : Int) : Okl nm now (rm l a) := by
  refine ⟨?_, fun x hx => h.2 x (List.mem_filter.1 hx).1⟩
  have : (al.rm l a).Sublist l := List.filter_sublist
  exact (this.map (·.1)).nodup h.1
theorem Okl.put {nm now : Int} {l : List Al} (h : Okl nm now l) {a t : Int} (ha : 0 ≤ a ∧ a < nm) (ht : now ≤ t ∧ t ≤ 4611686018427387904) : Okl nm now ((a, t) :: al.rm l a) := by
  refine ⟨?_, fun x hx => ?_⟩
  · rw [List.map_cons, List.nodup_cons]
    refine ⟨fun e => ?_, (h.rm a).1⟩
    obtain ⟨y, hy, e⟩ := List.mem_map.1 e
    have := (List.mem_filter.1 hy).2
    simp at this; exact this e
  · rcases List.mem_cons.1 hx with rfl | hx
    · exact ⟨ha.1, ha.2, ht.1, ht.2⟩
    · exact (h.rm a).2 x hx
/-- a clock of one's own -/
def Ck (C : Nat) (nm now : Int) (l : List Al) (S : List Nat) (w : World) : Prop := ∃ v bm D, QAt w C nm now v bm l D ∧ Pl l D ∧ HeapN l l.length ∧ S = C :: bm :: blkV v
theorem Ck.later {C : Nat} {nm now : Int} {l : List Al} {S : List Nat} {w W : World} (h : Ck C nm now l S w) (hb : Below w.heap.size w W) : Ck C nm now l S W := by
  obtain ⟨v, bm, D, q, p, hh, rfl⟩ := h
  exact ⟨v, bm, D, q.later hb, p, hh, rfl⟩
theorem Ck.lt {C : Nat} {nm now : Int} {l : List Al} {S : List Nat} {w : World} (h : Ck C nm now l S w) : ∀ b ∈ S, b < w.heap.size := by
  obtain ⟨v, bm, D, q, p, hh, rfl⟩ := h
  intro b hb
  rcases List.mem_cons.1 hb with rfl | hb
  · exact lt_of_block q.hdr
  · rcases List.mem_cons.1 hb with rfl | hb
    · exact q.bm_lt
    · exact (q.own_ne hb).2.2
theorem Ck.keep {C : Nat} {nm now : Int} {l : List Al} {S T : List Nat} {w W : World} (h : Ck C nm now l S w) (hk : Kept T w W) (hd : ∀ b ∈ S, b ∉ T) : Ck C nm now l S W := by
  obtain ⟨v, bm, D, q, p, hh, rfl⟩ := h
  exact ⟨v, bm, D, q.keep hk (hd C (by simp)) (hd bm (by simp)) (fun k hk' => hd k (by simp [hk'])), p, hh, rfl⟩
/-- what a change leaves: the alarms are those of l', in some order -/
def ChgC (C : Nat) (nm now : Int) (l' : List Al) (S : List Nat) (w w' : World) : Prop := ∃ S' l2, Ck C nm now l2 S' w' ∧ l2.Perm l' ∧ Kept S w w' ∧ ∀ b ∈ S', b ∈ S ∨ w.heap.size ≤ b
theorem ChgC.same {C : Nat} {nm now : Int} {l : List Al} {S : List Nat} {w W : World} (h : Ck C nm now l S w) (hb : Below w.heap.size w W) : ChgC C nm now l S w W := ⟨S, l, h.later hb, .refl _, Kept.of_below hb (Nat.le_refl _) S, fun b hb => .inl hb⟩
theorem ChgC.of_q {C : Nat} {nm now : Int} {v : Value} {bm : Nat} {l2 l' : List Al} {w w' : World} (h : QChg C nm now v bm l2 w w') (hh : HeapN l2 l2.length) (hp : l2.Perm l') : ChgC C nm now l' (C :: bm :: blkV v) w w' := by
  obtain ⟨v', D', q, p, k, hv⟩ := h
  refine ⟨C :: bm :: blkV v', l2, ⟨v', bm, D', q, p, hh, rfl⟩, hp, k, fun b hb => ?_⟩
  rcases List.mem_cons.1 hb with rfl | hb
  · exact .inl (by simp)
  · rcases List.mem_cons.1 hb with rfl | hb
    · exact .inl (by simp)
    · exact (hv b hb).imp (fun e => by simp [e]) id
/-- a name is looked up -/
theorem QAt.look {w : World} {C : Nat} {nm now : Int} {v : Value} {bm : Nat} {l : List Al} {D : DataW Unit} (h : QAt w C nm now v bm l D) (hP : Pl l D) (a : Int) (ha : -9223372036854775808 ≤ a ∧ a ≤ 9223372036854775807) :
    (∃ i, i < l.length ∧ (g l i).1 = a ∧ (Instr.lookup 57 (.map (some bm)) (.int .i64 a) true).run Try.prog w = .ok (.tuple #[.int .i64 i, .bool true]) w) ∨
    ((∀ x ∈ l, x.1 ≠ a) ∧ (Instr.lookup 57 (.map (some bm)) (.int .i64 a) true).run Try.prog w = .ok (.tuple #[.int .i64 0, .bool false]) w) := by
  obtain ⟨c, ps, hrun, hv⟩ := h.map.look_ok keyed Try.underlying57 (zero_int w) (plainElem_int Try.underlying3 (q := .i64) (a := 0) (by decide)) (keyOf_int_mk Try.underlying3 (q := .i64) (a := a) (WalkArith.wf_i64 ha))
  obtain ⟨z, rfl, hz, _⟩ := plainElem_int_inv Try.underlying3 hv
  simp only [Prod.mk.injEq] at hz
  rcases pl_has hP a with ⟨h1, i, hi, hn, hat⟩ | ⟨h1, hn⟩
  · left
    have e := hz.1
    rw [hat] at e
    injection e with e
    injection e with _ e
    exact ⟨i, hi, hn, by rw [hrun]; show Result.ok (Value.tuple #[.int .i64 z, .bool (Maps.has D (kl a))]) w = _; rw [h1, e]⟩
  · right
    have e := hz.1
    rw [atKey_of_not_has h1] at e
    injection e with e
    injection e with _ e
    exact ⟨hn, by rw [hrun]; show Result.ok (Value.tuple #[.int .i64 z, .bool (Maps.has D (kl a))]) w = _; rw [h1, ← e]⟩
theorem now_any (w : World) {C : Nat} {nm now : Int} {l : List Al} {S : List Nat} (h : Ck C nm now l S w) : Calls Try.prog 15 #[.pointer (some ⟨C, 0, none⟩)] w (RetI now w) := by
  obtain ⟨v, bm, D, q, _, _, _⟩ := h
  have c := cofr q.hdr 1 _ rfl
  clear q
  go_enter Try.func15, Try.ntmps15
  go_wp2_with fail
  go_ret
  exact ⟨rfl, Below.refl _ _⟩
theorem now_nil (w : World) : Calls Try.prog 15 #[.pointer none] w (RetI 0 w) := by
  go_enter Try.func15, Try.ntmps15
  go_wp2_with fail
  go_ret
  exact ⟨rfl, Below.refl _ _⟩
theorem prow_slice {w : World} {e : TypeId} {v : Value} {l : List Al} (h : PRow w e v l) : ∃ a cap, v = .slice a l.length cap := by
  rcases h.2 with ⟨rfl, h0⟩ | ⟨b, cap, cur, rfl, _⟩
  · exact ⟨none, 0, by rw [h0]⟩
  · exact ⟨_, _, rfl⟩
theorem clen_any (w : World) {C : Nat} {nm now : Int} {l : List Al} {S : List Nat} (h : Ck C nm now l S w) : Calls Try.prog 16 #[.pointer (some ⟨C, 0, none⟩)] w (RetI (l.length : Nat) w) := by
  obtain ⟨v, bm, D, q, _, _, _⟩ := h
  have c := cofr q.hdr 2 _ rfl
  obtain ⟨a, cap, rfl⟩ := prow_slice q.row
  clear q
  go_enter Try.func16, Try.ntmps16
  go_wp2_with (go_at_call 29; refine (len_list _ _ _ _).mono ?_; rintro e w2 ⟨rfl, rfl⟩)
  go_ret
  exact ⟨rfl, Below.refl _ _⟩
theorem clen_nil (w : World) : Calls Try.prog 16 #[.pointer none] w (RetI 0 w) := by
  go_enter Try.func16, Try.ntmps16
  go_wp2_with fail
  go_ret
  exact ⟨rfl, Below.refl _ _⟩
def RetP (t : Int) (b : Bool) (w : World) (e : Ending) (w' : World) : Prop := e = .returned (.tuple #[.int .i64 t, .bool b]) ∧ Below w.heap.size w w'
theorem at_any (w : World) {C : Nat} {nm now : Int} {l : List Al} {S : List Nat} (h : Ck C nm now l S w) (a : Int) (ha : -9223372036854775808 ≤ a ∧ a ≤ 9223372036854775807) :
    Calls Try.prog 20 #[.pointer (some ⟨C, 0, none⟩), .int .i64 a] w (fun e w' => (∃ t, (a, t) ∈ l ∧ RetP t true w e w') ∨ ((∀ x ∈ l, x.1 ≠ a) ∧ RetP 0 false w e w')) := by
  obtain ⟨v, bm, D, q, p, _, _⟩ := h
  have c2 := cofr q.hdr 2 _ rfl
  have c3 := cofr q.hdr 3 _ rfl
  rcases q.look p a ha with ⟨i, hi, hn, hrun⟩ | ⟨hn, hrun⟩
  · obtain ⟨b, cap, rfl, hlc, hcm, hce, _⟩ := q.read hi
    unfold maxLen at hcm
    obtain ⟨d0, d1⟩ := hce i hi
    have HM : Hid ((a, (g l i).2) ∈ l) := Lib.hid (by have := g_mem hi; rwa [show g l i = (a, (g l i).2) from by rw [← hn]] at this)
    clear q p hce hn
    generalize (g l i).2 = t at *
    go_enter Try.func20, Try.ntmps20
    go_wp2_with fail
    go_ret2
    exact .inl ⟨t, HM.out, rfl, Below.refl _ _⟩
  · have HN := Lib.hid hn
    clear q p hn
    go_enter Try.func20, Try.ntmps20
    go_wp2_with fail
    go_ret2
    exact .inr ⟨HN.out, rfl, Below.refl _ _⟩
theorem at_nil (w : World) (a : Int) : Calls Try.prog 20 #[.pointer none, .int .i64 a] w (RetP 0 false w) := by
  go_enter Try.func20, Try.ntmps20
  go_wp2_with fail
  go_ret2
  exact ⟨rfl, Below.refl _ _⟩
end Go.Proofs.Ytnioaaahkhephaa.al
