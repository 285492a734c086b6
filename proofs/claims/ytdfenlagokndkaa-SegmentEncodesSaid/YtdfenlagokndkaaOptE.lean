/-
  Package option: what is written in all.
-/
import Derived.Test.YtdfenlagokndkaaOptP
import Derived.Laws.EntriesVeiled
namespace Go.Proofs.Ytdfenlagokndkaa.op
open Go.RowKit aid mem oc
set_option linter.unusedVariables false

def partF (B K : Nat) : Value := .func (.func K) #[] #[.pointer (some ⟨B, 0, none⟩)]
def partsV (B : Nat) : Value := .agg #[partF B 109, partF B 110, partF B 111, partF B 112, partF B 113]
theorem parts_any (o : Opt) (a : Option Addr) (n cap : Nat) (w : World) :
    Calls Try.prog 97 #[.agg (optCells o a n cap)] w fun e w' => e = .returned (partsV w.heap.size) ∧ OptAt w' w.heap.size o a n cap ∧ w.heap.size < w'.heap.size ∧ Below w.heap.size w w' := by
  unfold partsV partF optCells
  go_enter Try.func97, Try.ntmps97
  go_wp2
  refine bodyPost_ret (v := .agg #[.func (.func 109) #[] #[.pointer (some ⟨w.heap.size, 0, none⟩)], .func (.func 110) #[] #[.pointer (some ⟨w.heap.size, 0, none⟩)], .func (.func 111) #[] #[.pointer (some ⟨w.heap.size, 0, none⟩)], .func (.func 112) #[] #[.pointer (some ⟨w.heap.size, 0, none⟩)], .func (.func 113) #[] #[.pointer (some ⟨w.heap.size, 0, none⟩)]]) (by simp [results, Try.results97, go_sem]) rfl ⟨rfl, ?_, by simp; omega, ((Below.refl _ _).alloc (Nat.le_refl _) _).alloc (by simp) _⟩
  exact (opt_new w o a n cap 25).keep ((Kept.refl [] _).alloc _) (by simp)

theorem wr_new (w : World) (t : TypeId) : Wr (w.alloc (.cells #[.pointer none, .int .i64 0] t)) w.heap.size [] [] :=
  ⟨World.frozen?_alloc_at _ _ _ _ rfl, World.frozen?_alloc_at _ _ _ _ rfl, World.cell?_alloc_at _ _ _ _ rfl, by simp, .inl ⟨World.cell?_alloc_at _ _ _ _ rfl, rfl, rfl⟩⟩

def upto (o : Opt) : Nat → List Int
  | 0 => []
  | 1 => [] ++ p1 o
  | 2 => [] ++ p1 o ++ p2 o
  | 3 => [] ++ p1 o ++ p2 o ++ p3 o
  | 4 => [] ++ p1 o ++ p2 o ++ p3 o ++ p4 o
  | _ => [] ++ p1 o ++ p2 o ++ p3 o ++ p4 o ++ p5 o
theorem upto_end (o : Opt) : upto o 5 = raw o := by simp [upto, raw]
theorem bare_le (o : Opt) (h : o.bl.length ≤ 4) : bare o ≤ 53 := by
  unfold bare
  (repeat' split) <;> omega
theorem upto_len (o : Opt) (h : o.bl.length ≤ 4) (k : Nat) : (upto o k).length ≤ 53 := by
  have := bare_le o h
  have e := raw_len o
  unfold raw at e
  simp only [List.length_append] at e
  match k with
  | 0 => simp [upto]
  | 1 => simp only [upto, List.length_append, List.length_nil]; omega
  | 2 => simp only [upto, List.length_append, List.length_nil]; omega
  | 3 => simp only [upto, List.length_append, List.length_nil]; omega
  | 4 => simp only [upto, List.length_append, List.length_nil]; omega
  | k + 5 => simp only [upto, List.length_append, List.length_nil]; omega

/-- how many bytes a writer at p has -/
def wrlen (w : World) (p : Nat) : Nat := match w.cell? ⟨p, 1, none⟩ with
  | some (.int _ n) => n.toNat
  | _ => 0
/-- a new writer that holds so many bytes -/
def NewWr (l : List Int) (w : World) (e : Ending) (w' : World) : Prop :=
  ∃ p S, e = .returned (.pointer (some ⟨p, 0, none⟩)) ∧ Wr w' p S l ∧ w.heap.size ≤ p ∧ (∀ k ∈ S, w.heap.size ≤ k) ∧ Below w.heap.size w w'

set_option maxRecDepth 100000 in
set_option maxHeartbeats 1600000 in
theorem write_any (o : Opt) (a : Option Addr) (n cap : Nat) (w : World) (hf : o.Fit) (hbl : BlA w a n cap o.bl) (hn : n ≤ 4) :
    Calls Try.prog 73 #[.agg (optCells o a n cap)] w (NewWr (enc o) w) := by
  have hlt := hbl.lt
  have hlen := hbl.len
  have HLT := Lib.hid hlt
  have HLEN := Lib.hid hlen
  have hK1 := (Kept.refl [] w).alloc (.cells (optCells o a n cap) 25)
  have hbl1 := hbl.keep hK1 (fun _ _ _ => by simp)
  clear hlt hlen hK1
  unfold optCells
  unfold optCells at hbl1
  go_enter Try.func73, Try.ntmps73
  go_wp2_with fail
  obtain ⟨w1, hw1⟩ : ∃ w1, (w.alloc (.cells #[.int .i64 o.mss, .bool o.permit, .bool o.ts, .int .u32 o.val, .int .u32 o.ecr, .bool o.hs, .int .i64 o.scale, .slice a n cap] 25)) = w1 := ⟨_, rfl⟩
  have hs1 : w1.heap.size = w.heap.size + 1 := by rw [← hw1]; simp
  have hb1 : Below w.heap.size w w1 := by rw [← hw1]; exact (Below.refl _ _).alloc (Nat.le_refl _) _
  rw [hw1] at hbl1 ⊢
  clear hw1 hbl
  have hw0 := wr_new w1 93
  have hbl2 := hbl1.later ((Below.refl _ _).alloc (Nat.le_refl _) (.cells #[.pointer none, .int .i64 0] 93))
  have hb2 : Below w.heap.size w (w1.alloc (.cells #[.pointer none, .int .i64 0] 93)) := hb1.alloc hb1.size _
  have hs2 : (w1.alloc (.cells #[.pointer none, .int .i64 0] 93)).heap.size = w.heap.size + 2 := by simp; omega
  rw [hs1] at hw0
  obtain ⟨w2, hw2⟩ : ∃ w2, w1.alloc (.cells #[.pointer none, .int .i64 0] 93) = w2 := ⟨_, rfl⟩
  rw [hw2] at hw0 hbl2 hb2 hs2 ⊢
  clear hw2 hbl1 hb1 hs1
  obtain ⟨p, hp⟩ : ∃ p, w.heap.size + 1 = p := ⟨_, rfl⟩
  rw [hp] at hw0 ⊢
  refine (parts_any o a n cap w2).mono ?_
  rintro e w3 ⟨rfl, hbox, hsz3, hb3⟩
  rw [hs2] at hbox ⊢
  obtain ⟨Bq, hBq⟩ : ∃ Bq, w.heap.size + 2 = Bq := ⟨_, rfl⟩
  rw [hBq] at hbox ⊢
  have hW : Ws w w.heap.size Bq p o a n cap [] w3 :=
    ⟨⟨[], hw0.keep (Kept.of_below hb3 (Nat.le_refl _) []) (by simp) (by simp), by simp⟩, ⟨by omega, by omega⟩, hbox, hbl2.later hb3, HLT.out, by omega, hb2.trans (hb3.mono (by omega))⟩
  have hwp : w.heap.size ≤ p := by omega
  clear hw0 hbl2 hb2 hs2 hbox hsz3 hb3 hp hBq
  unfold partsV partF
  go_wp2_with fail
  have hub := Lib.hid (upto_len o (by rw [HLEN.out]; exact hn))
  have i0 : ∀ w, (Instr.index 118 (.agg #[.func (.func 109) #[] #[.pointer (some ⟨Bq, 0, none⟩)], .func (.func 110) #[] #[.pointer (some ⟨Bq, 0, none⟩)], .func (.func 111) #[] #[.pointer (some ⟨Bq, 0, none⟩)], .func (.func 112) #[] #[.pointer (some ⟨Bq, 0, none⟩)], .func (.func 113) #[] #[.pointer (some ⟨Bq, 0, none⟩)]]) (.int .i64 0)).run Try.prog w = .ok (.func (.func 109) #[] #[.pointer (some ⟨Bq, 0, none⟩)]) w := fun _ => by kernel_rfl
  have i1 : ∀ w, (Instr.index 118 (.agg #[.func (.func 109) #[] #[.pointer (some ⟨Bq, 0, none⟩)], .func (.func 110) #[] #[.pointer (some ⟨Bq, 0, none⟩)], .func (.func 111) #[] #[.pointer (some ⟨Bq, 0, none⟩)], .func (.func 112) #[] #[.pointer (some ⟨Bq, 0, none⟩)], .func (.func 113) #[] #[.pointer (some ⟨Bq, 0, none⟩)]]) (.int .i64 1)).run Try.prog w = .ok (.func (.func 110) #[] #[.pointer (some ⟨Bq, 0, none⟩)]) w := fun _ => by kernel_rfl
  have i2 : ∀ w, (Instr.index 118 (.agg #[.func (.func 109) #[] #[.pointer (some ⟨Bq, 0, none⟩)], .func (.func 110) #[] #[.pointer (some ⟨Bq, 0, none⟩)], .func (.func 111) #[] #[.pointer (some ⟨Bq, 0, none⟩)], .func (.func 112) #[] #[.pointer (some ⟨Bq, 0, none⟩)], .func (.func 113) #[] #[.pointer (some ⟨Bq, 0, none⟩)]]) (.int .i64 2)).run Try.prog w = .ok (.func (.func 111) #[] #[.pointer (some ⟨Bq, 0, none⟩)]) w := fun _ => by kernel_rfl
  have i3 : ∀ w, (Instr.index 118 (.agg #[.func (.func 109) #[] #[.pointer (some ⟨Bq, 0, none⟩)], .func (.func 110) #[] #[.pointer (some ⟨Bq, 0, none⟩)], .func (.func 111) #[] #[.pointer (some ⟨Bq, 0, none⟩)], .func (.func 112) #[] #[.pointer (some ⟨Bq, 0, none⟩)], .func (.func 113) #[] #[.pointer (some ⟨Bq, 0, none⟩)]]) (.int .i64 3)).run Try.prog w = .ok (.func (.func 112) #[] #[.pointer (some ⟨Bq, 0, none⟩)]) w := fun _ => by kernel_rfl
  have i4 : ∀ w, (Instr.index 118 (.agg #[.func (.func 109) #[] #[.pointer (some ⟨Bq, 0, none⟩)], .func (.func 110) #[] #[.pointer (some ⟨Bq, 0, none⟩)], .func (.func 111) #[] #[.pointer (some ⟨Bq, 0, none⟩)], .func (.func 112) #[] #[.pointer (some ⟨Bq, 0, none⟩)], .func (.func 113) #[] #[.pointer (some ⟨Bq, 0, none⟩)]]) (.int .i64 4)).run Try.prog w = .ok (.func (.func 113) #[] #[.pointer (some ⟨Bq, 0, none⟩)]) w := fun _ => by kernel_rfl
  go_loopw [9] (fun i wr => ∃ k : Nat, k ≤ 5 ∧ i = .int .i64 k ∧ Ws w w.heap.size Bq p o a n cap (upto o k) wr) (fun i _ => 5 - (intOf i).toNat)
  case atStart => exact ⟨0, by omega, rfl, hW⟩
  case round =>
    obtain ⟨k, hk, hi, h⟩ := hrel
    clear hW
    have hl := hub.out k
    rcases (show k = 0 ∨ k = 1 ∨ k = 2 ∨ k = 3 ∨ k = 4 ∨ k = 5 by omega) with rfl | rfl | rfl | rfl | rfl | rfl
    · obtain rfl : _ = Value.int .i64 0 := hi
      go_wp2_with fail
      refine (parts1 h (by omega)).mono ?_
      rintro e w4 ⟨rfl, h4⟩
      go_wp2_with fail
      go_roundw
      case rel => exact ⟨1, by omega, rfl, h4⟩
      case measure => simp [intOf]
    · obtain rfl : _ = Value.int .i64 1 := hi
      go_wp2_with fail
      refine (parts2 h (by omega)).mono ?_
      rintro e w4 ⟨rfl, h4⟩
      go_wp2_with fail
      go_roundw
      case rel => exact ⟨2, by omega, rfl, h4⟩
      case measure => simp [intOf]
    · obtain rfl : _ = Value.int .i64 2 := hi
      go_wp2_with fail
      refine (parts3 h hf (by omega)).mono ?_
      rintro e w4 ⟨rfl, h4⟩
      go_wp2_with fail
      go_roundw
      case rel => exact ⟨3, by omega, rfl, h4⟩
      case measure => simp [intOf]
    · obtain rfl : _ = Value.int .i64 3 := hi
      go_wp2_with fail
      refine (parts4 h (by omega)).mono ?_
      rintro e w4 ⟨rfl, h4⟩
      go_wp2_with fail
      go_roundw
      case rel => exact ⟨4, by omega, rfl, h4⟩
      case measure => simp [intOf]
    · obtain rfl : _ = Value.int .i64 4 := hi
      go_wp2_with fail
      refine (parts5 h hf hn (by omega)).mono ?_
      rintro e w4 ⟨rfl, h4⟩
      go_wp2_with fail
      go_roundw
      case rel => exact ⟨5, by omega, rfl, h4⟩
      case measure => simp [intOf]
    · obtain rfl : _ = Value.int .i64 5 := hi
      rw [upto_end] at h
      clear i0 i1 i2 i3 i4
      have hl' := bare_le o (by rw [HLEN.out]; exact hn)
      have hrl : (raw o).length ≤ 53 := by rw [raw_len]; exact hl'
      go_wp2_with fail
      go_loopw [20] (fun _ wr => ∃ l' : List Int, Ws w w.heap.size Bq p o a n cap l' wr ∧ Hid (pad l' = enc o) ∧ Hid (l'.length ≤ 56 ∧ (l'.length ≤ 53 ∨ padN l'.length + l'.length ≤ 56))) (fun _ wr => padN (wrlen wr p))
      case atStart => exact ⟨raw o, h, Lib.hid rfl, Lib.hid ⟨by omega, .inl hrl⟩⟩
      case round =>
        obtain ⟨l', h', HP, HL⟩ := hrel
        have hlen' := HL.out.1
        have hwl : wrlen wr p = l'.length := by
          obtain ⟨S, hw, _⟩ := h'.ex
          unfold wrlen
          rw [hw.c1]
          simp
        have HWL := Lib.hid hwl
        clear hwl h hrl hl'
        by_cases hmod : l'.length % 4 = 0
        · have hm : (((l'.length : Int) % 4) != 0) = false := by simp; omega
          go_wp2_with fail
          refine (ws_len h').mono ?_
          rintro e w' ⟨rfl, rfl⟩
          go_wp2_with fail
          go_ret
          obtain ⟨S, hw, hS⟩ := h'.ex
          have e : enc o = l' := by rw [← HP.out, pad_done l' hmod]
          rw [e]
          exact ⟨p, S, rfl, hw, hwp, fun k hk => (hS k hk).1, h'.below⟩
        · have hm : (((l'.length : Int) % 4) != 0) = true := by simp; omega
          have hpn : padN (l'.length + 1) < padN l'.length := by unfold padN; omega
          have HPN := Lib.hid hpn
          go_wp2_with fail
          refine (ws_len h').mono ?_
          rintro e w' ⟨rfl, rfl⟩
          go_wp2_with fail
          refine (ws_one h' 0 (by omega)).mono ?_
          rintro e w5 ⟨rfl, h5⟩
          have hwl5 : wrlen w5 p = l'.length + 1 := by
            obtain ⟨S, hw, _⟩ := h5.ex
            unfold wrlen
            rw [hw.c1]
            simp
          have HWL5 := Lib.hid hwl5
          clear hwl5
          go_wp2_with fail
          go_roundw
          case rel => exact ⟨l' ++ [0], h5, Lib.hid (by rw [pad_step l' hmod, HP.out]), Lib.hid (by
            have := HL.out.2
            have := HPN.out
            rw [List.length_append, List.length_singleton]
            unfold padN at *
            omega)⟩
          case measure => rw [HWL5.out, HWL.out]; exact HPN.out
end Go.Proofs.Ytdfenlagokndkaa.op
