/-
  Contracts of package octet: a writer that is written to by nobody else.
-/
import Derived.Test.YtjkjbhapkmamkaaProg
import Derived.Test.YtjkjbhapkmamkaaMem
namespace Go.Proofs.Ytjkjbhapkmamkaa.oc
open Go.RowKit aid mem
set_option linter.unusedVariables false

theorem info5 : (Try.prog.info? 5).map (fun i => (i.zero, i.size, i.bytes)) = some (some (.int .u8 0), 1, 1) := by kernel_rfl

/-- a row of bytes of one's own is answered, in new memory -/
def RetRow (n : Nat) (l : List Int) (w : World) (e : Ending) (w' : World) : Prop :=
  ∃ v, e = .returned v ∧ w'.ownsRow w.heap.size 5 1 v n (ints .u8 l) ∧ Below w.heap.size w w'

/-! ### A writer -/
/-- at block p: a pointer to what is written, and its length; S: the blocks behind it -/
structure Wr (w : World) (p : Nat) (S : List Nat) (l : List Int) : Prop where
  f0 : w.frozen? ⟨p, 0, none⟩ = false
  f1 : w.frozen? ⟨p, 1, none⟩ = false
  c1 : w.cell? ⟨p, 1, none⟩ = some (.int .i64 l.length)
  small : l.length ≤ 140737488355328
  rest : (w.cell? ⟨p, 0, none⟩ = some (.pointer none) ∧ l = [] ∧ S = []) ∨
    ∃ sb v, w.cell? ⟨p, 0, none⟩ = some (.pointer (some ⟨sb, 0, none⟩)) ∧ w.cell? ⟨sb, 0, none⟩ = some v ∧ w.frozen? ⟨sb, 0, none⟩ = false ∧
      w.ownsRow 0 5 1 v l.length (ints .u8 l) ∧ sb ≠ p ∧ (∀ g, v.ownBlock = some g → g ≠ p ∧ g ≠ sb) ∧ S = sb :: v.ownBlock.toList

theorem Wr.keep {w w' : World} {p : Nat} {S S' : List Nat} {l : List Int} (h : Wr w p S l) (hk : Kept S' w w') (hp : p ∉ S') (hd : ∀ k ∈ S, k ∉ S') : Wr w' p S l := by
  rcases h.rest with ⟨h0, hl, hS⟩ | ⟨sb, v, h0, hs, hf, hown, hne, hg, hS⟩
  · exact ⟨(hk.frozen (p := ⟨p, 0, none⟩) hp h0).trans h.f0, (hk.frozen (p := ⟨p, 1, none⟩) hp h.c1).trans h.f1, hk.cell (p := ⟨p, 1, none⟩) hp h.c1, h.small, .inl ⟨hk.cell (p := ⟨p, 0, none⟩) hp h0, hl, hS⟩⟩
  · have hsb : sb ∉ S' := hd sb (by rw [hS]; simp)
    refine ⟨(hk.frozen (p := ⟨p, 0, none⟩) hp h0).trans h.f0, (hk.frozen (p := ⟨p, 1, none⟩) hp h.c1).trans h.f1, hk.cell (p := ⟨p, 1, none⟩) hp h.c1, h.small, .inr ⟨sb, v, hk.cell (p := ⟨p, 0, none⟩) hp h0, hk.cell (p := ⟨sb, 0, none⟩) hsb hs, (hk.frozen (p := ⟨sb, 0, none⟩) hsb hs).trans hf, hk.own ?_ hown, hne, hg, hS⟩⟩
    intro k hk'
    exact hd k (by rw [hS]; simp [hk'])

/-- the world is as it was, but for draws -/
def RetQ (v : Value) (w : World) (e : Ending) (w' : World) : Prop := e = .returned v ∧ ∃ n, w' = w.drewN n

/-- what is written behind -/
def WrPost (p : Nat) (S : List Nat) (l : List Int) (w : World) (e : Ending) (w' : World) : Prop :=
  e = .returned (.tuple #[]) ∧ ∃ S', Wr w' p S' l ∧ Kept (p :: S) w w' ∧ ∀ k ∈ S', k ∈ S ∨ w.heap.size ≤ k

/-- what is left behind a put: the store at sb, its row the old one or a new one -/
def PutPost (p sb : Nat) (ob : Option Nat) (l : List Int) (w : World) (e : Ending) (w' : World) : Prop :=
  e = .returned (.tuple #[]) ∧ ∃ a cap, w'.cell? ⟨p, 0, none⟩ = some (.pointer (some ⟨sb, 0, none⟩)) ∧ w'.cell? ⟨p, 1, none⟩ = some (.int .i64 l.length) ∧ w'.cell? ⟨sb, 0, none⟩ = some (.slice a l.length cap) ∧
    w'.ownsRow 0 5 1 (.slice a l.length cap) l.length (ints .u8 l) ∧ (Value.ownBlock (.slice a l.length cap) = ob ∨ ∃ g, Value.ownBlock (.slice a l.length cap) = some g ∧ w.heap.size ≤ g) ∧ (∀ g, Value.ownBlock (.slice a l.length cap) = some g → g ≠ p ∧ g ≠ sb) ∧ Kept (p :: sb :: ob.toList) w w' ∧ w'.frozen? ⟨p, 0, none⟩ = false ∧ w'.frozen? ⟨p, 1, none⟩ = false ∧ w'.frozen? ⟨sb, 0, none⟩ = false

theorem put_end (p sb : Nat) (ob : Option Nat) (l lb : List Int) (n m cap3 : Nat) (a0 : Option Addr) (cap0 : Nat) (a3 : Option Addr) (w w1 w3 : World) (hne : sb ≠ p) (hk1 : Kept [p] w w1) (hll : l.length = n) (hlb : lb.length = m)
    (hlp : p < w1.heap.size) (hls : sb < w1.heap.size) (hgp : some p ≠ ob) (hgs : some sb ≠ ob) (hgr : w1.drew.grownBy w3 ob)
    (hown3 : w3.ownsRow 0 5 1 (.slice a3 (n + m) cap3) (n + m) (ints .u8 l ++ ints .u8 lb))
    (hat3 : Value.ownBlock (.slice a3 (n + m) cap3) = ob ∨ Value.ownBlock (.slice a3 (n + m) cap3) = some w1.drew.heap.size)
    (c0 : w3.cell? ⟨p, 0, none⟩ = some (.pointer (some ⟨sb, 0, none⟩))) (c1 : w3.cell? ⟨p, 1, none⟩ = some (.int .i64 n)) (cs : w3.cell? ⟨sb, 0, none⟩ = some (.slice a0 n cap0))
    (d0 : w3.frozen? ⟨p, 0, none⟩ = false) (d1 : w3.frozen? ⟨p, 1, none⟩ = false) (ds : w3.frozen? ⟨sb, 0, none⟩ = false) :
    PutPost p sb ob (l ++ lb) w (.returned (.tuple #[])) ((w3.setCell ⟨sb, 0, none⟩ (.slice a3 (n + m) cap3)).setCell ⟨p, 1, none⟩ (.int .i64 (n + m))) := by
  have hlen : (l ++ lb).length = n + m := by simp [hll, hlb]
  have hpb : Value.ownBlock (.slice a3 (n + m) cap3) ≠ some p := by
    rcases hat3 with h | h <;> rw [h]
    · exact fun e => hgp e.symm
    · intro e; injection e with e; simp at e; omega
  have hsb : Value.ownBlock (.slice a3 (n + m) cap3) ≠ some sb := by
    rcases hat3 with h | h <;> rw [h]
    · exact fun e => hgs e.symm
    · intro e; injection e with e; simp at e; omega
  unfold PutPost
  rw [hlen]
  refine ⟨rfl, a3, cap3, ?_, ?_, ?_, ?_, ?_, fun g hg => ⟨fun e => hpb (by rw [hg, e]), fun e => hsb (by rw [hg, e])⟩, ?_, by simpa using d0, by simpa using d1, by simpa using ds⟩
  · exact (set_other (by simp)).trans ((set_other (by simp)).trans c0)
  · have : (w3.setCell ⟨sb, 0, none⟩ (.slice a3 (n + m) cap3)).cell? ⟨p, 1, none⟩ = some (.int .i64 n) := (set_other (by simp)).trans c1
    rw [set_same this]
    simp
  · exact (set_other (by simp)).trans (set_same cs)
  · rw [ints_append]
    exact ownsRow_setCell_other (ownsRow_setCell_other hown3 hsb _) hpb _
  · rcases hat3 with h | h
    · exact .inl h
    · exact .inr ⟨_, h, by have := hk1.size; simpa using this⟩
  · refine ((((hk1.mono (by simp)).drew).grown hgr ?_).setCell (.inl (by simp)) _).setCell (.inl (by simp)) _
    intro k hk
    exact .inl (by simp [hk])

def PutZ (p : Nat) (lb : List Int) (w : World) (e : Ending) (w' : World) : Prop := ∃ sb, w.heap.size ≤ sb ∧ PutPost p sb none lb w e w'

end Go.Proofs.Ytjkjbhapkmamkaa.oc
