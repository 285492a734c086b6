/-
  Package segment: Decode, of what was encoded, and of what is not fine.
-/
import Derived.Test.YtdfenlagokndkaaSegF
namespace Go.Proofs.Ytdfenlagokndkaa.sg
open Go.RowKit aid mem oc op sm
set_option linter.unusedVariables false

set_option maxHeartbeats 800000 in
theorem whole_any (x : Option Addr) (n c : Nat) (l : List Int) (w : World) (hs : SlA .u8 w x n c l) (hb : Bd l) (h8 : 8 ≤ n) (hm : n ≤ 2096) :
    Calls Try.prog 65 #[.slice x n c] w (RetE (if fineB l = true then 0 else 7) w) := by
  have HF := Lib.hid (fine_any hs hb)
  have hk : Hid ((if fineB l = true then (0 : Int) else 7) = if fineB l = true then 0 else 7) := Lib.hid rfl
  cases hfb : fineB l with
  | true =>
    rw [hfb] at HF
    have HE : Hid ((if true = true then (0 : Int) else 7) = 0) := Lib.hid rfl
    rw [HE.out]
    clear hk hfb hs hb
    go_enter Try.func65, Try.ntmps65
    go_wp2_with fail
    refine HF.out.mono ?_
    rintro e w1 ⟨rfl, h1⟩
    go_wp2
    go_ret
    exact ⟨rfl, h1⟩
  | false =>
    rw [hfb] at HF
    have HE : Hid ((if false = true then (0 : Int) else 7) = 7) := Lib.hid rfl
    rw [HE.out]
    clear hk hfb hs hb
    go_enter Try.func65, Try.ntmps65
    go_wp2_with fail
    refine HF.out.mono ?_
    rintro e w1 ⟨rfl, h1⟩
    go_wp2
    go_ret
    exact ⟨rfl, h1⟩

/-- the four looks -/
def PartsPost (p Q : Nat) (w : World) (e : Ending) (w' : World) : Prop :=
  e = .returned (.agg #[.func (.func 85) #[] #[.pointer (some ⟨w.heap.size, 0, none⟩), .pointer (some ⟨w.heap.size + 1, 0, none⟩)], .func (.func 87) #[] #[.pointer (some ⟨w.heap.size, 0, none⟩), .pointer (some ⟨w.heap.size + 3, 0, none⟩), .pointer (some ⟨w.heap.size + 1, 0, none⟩)], .func (.func 90) #[] #[.pointer (some ⟨w.heap.size, 0, none⟩), .pointer (some ⟨w.heap.size + 3, 0, none⟩), .pointer (some ⟨w.heap.size + 1, 0, none⟩)], .func (.func 93) #[] #[.pointer (some ⟨w.heap.size, 0, none⟩), .pointer (some ⟨w.heap.size + 1, 0, none⟩)]]) ∧
    w'.cell? ⟨w.heap.size, 0, none⟩ = some (.pointer (some ⟨p, 0, none⟩)) ∧ w'.cell? ⟨w.heap.size + 1, 0, none⟩ = some (.pointer (some ⟨Q, 0, none⟩)) ∧ w'.cell? ⟨w.heap.size + 3, 0, none⟩ = some (.int .i64 0) ∧ w'.frozen? ⟨w.heap.size + 3, 0, none⟩ = false ∧ w.heap.size + 3 < w'.heap.size ∧ Below w.heap.size w w'

theorem old_cell {w : World} {a : Addr} {v : Value} (o : Obj) (h : w.cell? a = some v) : (w.alloc o).cell? a = some v := ((bal o).cell (p := a) (World.block_lt_of_cell? w _ h)).trans h

set_option maxRecDepth 100000 in
set_option maxHeartbeats 800000 in
theorem sparts_any (p Q : Nat) (w : World) : Calls Try.prog 66 #[.pointer (some ⟨p, 0, none⟩), .pointer (some ⟨Q, 0, none⟩)] w (PartsPost p Q w) := by
  go_enter Try.func66, Try.ntmps66
  go_wp2
  refine bodyPost_ret (v := .agg #[.func (.func 85) #[] #[.pointer (some ⟨w.heap.size, 0, none⟩), .pointer (some ⟨w.heap.size + 1, 0, none⟩)], .func (.func 87) #[] #[.pointer (some ⟨w.heap.size, 0, none⟩), .pointer (some ⟨w.heap.size + 1 + 1 + 1, 0, none⟩), .pointer (some ⟨w.heap.size + 1, 0, none⟩)], .func (.func 90) #[] #[.pointer (some ⟨w.heap.size, 0, none⟩), .pointer (some ⟨w.heap.size + 1 + 1 + 1, 0, none⟩), .pointer (some ⟨w.heap.size + 1, 0, none⟩)], .func (.func 93) #[] #[.pointer (some ⟨w.heap.size, 0, none⟩), .pointer (some ⟨w.heap.size + 1, 0, none⟩)]]) (by simp [results, Try.results66, go_sem]) rfl ⟨rfl, ?_, ?_, ?_, ?_, by simp, ?_⟩
  · exact old_cell _ (old_cell _ (old_cell _ (World.cell?_alloc_at _ _ _ _ rfl)))
  · exact old_cell _ (old_cell _ (World.cell?_alloc_at _ _ _ _ (by simp)))
  · exact World.cell?_alloc_at _ _ _ _ (by simp)
  · exact World.frozen?_alloc_at _ _ _ _ (by simp)
  · exact (((bal _).alloc (bal _).size _).alloc (by simp; omega) _).alloc (by simp; omega) _

/-- what was decoded -/
def DecPost (s : Seg) (w : World) (e : Ending) (w' : World) : Prop :=
  ∃ a n cap b k bc, e = .returned (.tuple #[segV s a n cap b k bc, .int .i64 0]) ∧ BlA w' a n cap s.o.bl ∧ SlA .u8 w' b k bc s.body ∧ Old w' b bc ∧ Below w.heap.size w w'

theorem senc_cons (s : Seg) (hk : schk s = 0) (hf : s.Fit) : ∃ u c0 c1 x0 x1 x2 x3 : Int, sencL s = s.kind :: u :: c0 :: c1 :: x0 :: x1 :: x2 :: x3 :: (enc s.o ++ s.body) ∧ u * 4 = (enc s.o).length ∧ u * 4 ≤ 40 ∧ n4 x0 x1 x2 x3 = s.num := by
  obtain ⟨h1, h2, _, _⟩ := schk0 hk
  have h3 := (chk0_bl h2).2
  have h4 := size4_mod s.o
  have h5 := hf.num
  refine ⟨((enc s.o).length / 4 : Nat) % 256, keyL s / 256, keyL s % 256, s.num / 16777216, s.num / 65536 % 256, s.num / 256 % 256, s.num % 256, ?_, ?_, ?_, ?_⟩
  · unfold sencL layL two four
    rw [show s.kind % 256 = s.kind by omega]
    simp
  · rw [enc_len]; omega
  · rw [enc_len]; omega
  · unfold n4; omega
end Go.Proofs.Ytdfenlagokndkaa.sg
