/-
  Package segment: the bytes of a segment; Encode.
-/
import Derived.Test.YtdfenlagokndkaaSegC
import Derived.Test.YtdfenlagokndkaaSumK
namespace Go.Proofs.Ytdfenlagokndkaa.sg
open Go.RowKit aid mem oc op
set_option linter.unusedVariables false

theorem wr_new0 (w : World) : Wr (w.alloc (.cells #[.pointer none, .int .i64 0] 93)) w.heap.size [] [] := wr_new w _

/-- bytes in a row of one's own -/
def RetL (l : List Int) (w : World) (e : Ending) (w' : World) : Prop := ∃ v, e = .returned v ∧ w'.ownsRow w.heap.size 5 1 v l.length (ints .u8 l) ∧ Below w.heap.size w w'

/-- a segment in a box, a writer beside it, bytes for it: since w0 -/
structure LS (w0 : World) (B p : Nat) (s : Seg) (a : Option Addr) (n cap : Nat) (b : Option Addr) (m bc : Nat) (oa : Option Addr) (on oc : Nat) (ol l : List Int) (w : World) : Prop where
  sm : SM w0 B s a n cap b m bc w
  ob : SlA .u8 w oa on oc ol
  ex : ∃ S, Wr w p S l ∧ ∀ k ∈ S, w0.heap.size ≤ k ∧ k ≠ B
  old : (∀ x, a = some x → 0 < n → x.block < w0.heap.size) ∧ (∀ x, b = some x → 0 < bc → x.block < w0.heap.size) ∧ (∀ x, oa = some x → 0 < oc → x.block < w0.heap.size)
  p : w0.heap.size ≤ p ∧ p ≠ B
  le : w0.heap.size ≤ w.heap.size
section
variable {w0 : World} {B p : Nat} {s : Seg} {a : Option Addr} {n cap : Nat} {b : Option Addr} {m bc : Nat} {oa : Option Addr} {on oc : Nat} {ol l : List Int} {w : World}
theorem LS.plt (h : LS w0 B p s a n cap b m bc oa on oc ol l w) : p < w.heap.size := by
  obtain ⟨S, hw, _⟩ := h.ex
  exact World.block_lt_of_cell? w _ hw.c1
theorem LS.alloc (h : LS w0 B p s a n cap b m bc oa on oc ol l w) (x : Obj) : LS w0 B p s a n cap b m bc oa on oc ol l (w.alloc x) := by
  obtain ⟨S, hw, hS⟩ := h.ex
  exact ⟨h.sm.later (bal x), h.ob.later (bal x), ⟨S, hw.keep ((Kept.refl [] w).alloc x) (by simp) (by simp), hS⟩, h.old, h.p, by have := h.le; simp; omega⟩
theorem LS.wrote (h : LS w0 B p s a n cap b m bc oa on oc ol l w) {S : List Nat} (hS : ∀ k ∈ S, w0.heap.size ≤ k ∧ k ≠ B) {l' : List Int} {w' : World} {e : Ending} (hp : WrPost p S l' w e w') :
    e = .returned (.tuple #[]) ∧ LS w0 B p s a n cap b m bc oa on oc ol l' w' := by
  obtain ⟨he, S', h1, h2, h3⟩ := hp
  have hB := h.sm.at_.lt
  have hle := h.le
  have hpp := h.p
  have hn : B ∉ p :: S := by
    intro hb
    rcases List.mem_cons.1 hb with e | e
    · exact h.p.2 e.symm
    · exact (hS B e).2 rfl
  have hlow : ∀ k, k < w0.heap.size → k ∉ p :: S := by
    intro k hk hm
    rcases List.mem_cons.1 hm with e | e
    · omega
    · have := (hS k e).1; omega
  refine ⟨he, ⟨h.sm.at_.keep h2 hn, h.sm.bl.keep h2 (fun x hx h0 => hlow _ (h.old.1 x hx h0)), h.sm.body.keepIf h2 (fun x hx h0 => hlow _ (h.old.2.1 x hx h0)), h.sm.below.trans (h2.below ?_ h.le)⟩, h.ob.keepIf h2 (fun x hx h0 => hlow _ (h.old.2.2 x hx h0)), ⟨S', h1, fun k hk => ?_⟩, h.old, h.p, Nat.le_trans h.le h2.size⟩
  · intro k hk
    rcases List.mem_cons.1 hk with e | e
    · omega
    · exact (hS k e).1
  · rcases h3 k hk with h | h
    · exact hS k h
    · omega

theorem ls_new (h : LS w0 B p s a n cap b m bc oa on oc ol l w) (lb : List Int) (k : Nat) (hm : lb.length = k) (Bn : Nat) (hB : Bn = w.heap.size) (t : TypeId) (hr : l.length + lb.length ≤ 10000) (arr : Array Value) (ha : arr = (ints .u8 lb).toArray) :
    Calls Try.prog 75 #[.pointer (some ⟨p, 0, none⟩), .slice (some ⟨Bn, 0, none⟩) k k] (w.alloc (.cells arr t)) fun e w' => e = .returned (.tuple #[]) ∧ LS w0 B p s a n cap b m bc oa on oc ol (l ++ lb) w' := by
  subst hB ha hm
  have h' := h.alloc (.cells (ints .u8 lb).toArray t)
  obtain ⟨S, hw, hS⟩ := h'.ex
  have hp := h.plt
  exact (all_any p S l _ lb.length lb.length lb _ hw (sl_new .u8 t w lb (by unfold maxLen; omega)) (by intro x hx _; injection hx with hx; subst hx; simp; omega) (by omega)).mono fun e w' he => h'.wrote hS he
theorem ls_two (h : LS w0 B p s a n cap b m bc oa on oc ol l w) (x : Int) (hx : 0 ≤ x ∧ x ≤ 65535) (hr : l.length ≤ 1000) :
    Calls Try.prog 76 #[.pointer (some ⟨p, 0, none⟩), .int .u16 x] w fun e w' => e = .returned (.tuple #[]) ∧ LS w0 B p s a n cap b m bc oa on oc ol (l ++ two x) w' := by
  obtain ⟨S, hw, hS⟩ := h.ex
  exact (two_any p S l x _ hw hx (by omega)).mono fun e w' he => h.wrote hS he
theorem ls_four (h : LS w0 B p s a n cap b m bc oa on oc ol l w) (x : Int) (hx : 0 ≤ x ∧ x ≤ 4294967295) (hr : l.length ≤ 1000) :
    Calls Try.prog 77 #[.pointer (some ⟨p, 0, none⟩), .int .u32 x] w fun e w' => e = .returned (.tuple #[]) ∧ LS w0 B p s a n cap b m bc oa on oc ol (l ++ four x) w' := by
  obtain ⟨S, hw, hS⟩ := h.ex
  exact (four_any p S l x _ hw hx (by omega)).mono fun e w' he => h.wrote hS he
theorem ls_all (h : LS w0 B p s a n cap b m bc oa on oc ol l w) (x : Option Addr) (k c : Nat) (lb : List Int) (hs : SlA .u8 w x k c lb) (hx : ∀ y, x = some y → 0 < c → y.block < w0.heap.size) (hr : l.length + k ≤ 10000) :
    Calls Try.prog 75 #[.pointer (some ⟨p, 0, none⟩), .slice x k c] w fun e w' => e = .returned (.tuple #[]) ∧ LS w0 B p s a n cap b m bc oa on oc ol (l ++ lb) w' := by
  obtain ⟨S, hw, hS⟩ := h.ex
  exact (all_any p S l x k c lb _ hw hs (fun y hy h0 => by have := hx y hy h0; have := h.p.1; omega) (by omega)).mono fun e w' he => h.wrote hS he
end

set_option maxRecDepth 100000 in
set_option maxHeartbeats 1600000 in
theorem lay_any (s : Seg) (a : Option Addr) (n cap : Nat) (b : Option Addr) (m bc : Nat) (oa : Option Addr) (on oc : Nat) (ol : List Int) (c : Int) (w : World) (hf : s.Fit) (hl : BlA w a n cap s.o.bl) (hb : SlA .u8 w b m bc s.body) (ho : SlA .u8 w oa on oc ol)
    (hbo : ∀ x, b = some x → 0 < bc → x.block < w.heap.size) (hoo : ∀ x, oa = some x → 0 < oc → x.block < w.heap.size) (hc : 0 ≤ c ∧ c ≤ 65535) (h40 : on ≤ 40) (hm : m ≤ 2048) :
    Calls Try.prog 45 #[segV s a n cap b m bc, .slice oa on oc, .int .u16 c] w (RetL ([s.kind % 256, ((on : Int) / 4) % 256] ++ two c ++ four s.num ++ ol ++ s.body) w) := by
  have hlen := hb.len
  have holen := ho.len
  have hk8 := IntKind.wrap_u8 s.kind
  have hk9 : IntKind.u8.wrap ((on : Int) / 4) = ((on : Int) / 4) % 256 := IntKind.wrap_u8 _
  have L0 : LS w w.heap.size (w.heap.size + 1) s a n cap b m bc oa on oc ol [] ((w.alloc (.cells #[.int .i64 s.kind, .int .u32 s.num, .int .i64 s.o.mss, .bool s.o.permit, .bool s.o.ts, .int .u32 s.o.val, .int .u32 s.o.ecr, .bool s.o.hs, .int .i64 s.o.scale, .slice a n cap, .slice b m bc] 28)).alloc (.cells #[.pointer none, .int .i64 0] 93)) :=
    ⟨(sm_new w s a n cap b m bc hl hb).later (bal _), (ho.later (bal _)).later (bal _), ⟨[], by simpa using wr_new (w.alloc (.cells #[.int .i64 s.kind, .int .u32 s.num, .int .i64 s.o.mss, .bool s.o.permit, .bool s.o.ts, .int .u32 s.o.val, .int .u32 s.o.ecr, .bool s.o.hs, .int .i64 s.o.scale, .slice a n cap, .slice b m bc] 28)) 93, by simp⟩, ⟨fun x hx h0 => hl.lt x hx h0, hbo, hoo⟩, ⟨by omega, by omega⟩, by simp; omega⟩
  have hWs : Hid (w.heap.size + 1 + 1 = ((w.alloc (.cells #[.int .i64 s.kind, .int .u32 s.num, .int .i64 s.o.mss, .bool s.o.permit, .bool s.o.ts, .int .u32 s.o.val, .int .u32 s.o.ecr, .bool s.o.hs, .int .i64 s.o.scale, .slice a n cap, .slice b m bc] 28)).alloc (.cells #[.pointer none, .int .i64 0] 93)).heap.size) := Lib.hid (by simp)
  obtain ⟨R, hR⟩ : ∃ R, [s.kind % 256, ((on : Int) / 4) % 256] ++ two c ++ four s.num ++ ol ++ s.body = R := ⟨_, rfl⟩
  rw [hR]
  have HR := Lib.hid hR
  clear hR
  have HBO := Lib.hid hbo
  have HOO := Lib.hid hoo
  have HLEN := Lib.hid hlen
  have HOLEN := Lib.hid holen
  clear hbo hoo hlen holen hl hb ho
  go_enter Try.func45, Try.ntmps45
  go_wp2_with fail
  generalize ((w.alloc (.cells #[.int .i64 s.kind, .int .u32 s.num, .int .i64 s.o.mss, .bool s.o.permit, .bool s.o.ts, .int .u32 s.o.val, .int .u32 s.o.ecr, .bool s.o.hs, .int .i64 s.o.scale, .slice a n cap, .slice b m bc] 28)).alloc (.cells #[.pointer none, .int .i64 0] 93)) = W at *
  generalize w.heap.size = B at L0 hWs ⊢
  (with_reducible refine (ls_new L0 [s.kind % 256, ((on : Int) / 4) % 256] 2 rfl _ hWs.out _ (by simp) #[.int .u8 (s.kind % 256), .int .u8 ((on : Int) / 4 % 256)] rfl).mono ?_)
  rintro e w1 ⟨rfl, L1⟩
  clear L0
  go_wp2_with fail
  (with_reducible refine (ls_two L1 c hc (by simp)).mono ?_)
  rintro e w2 ⟨rfl, L2⟩
  have c1 := L2.sm.at_.cs.c1
  clear L1
  go_wp2_with fail
  (with_reducible refine (ls_four L2 s.num hf.num (by simp [two])).mono ?_)
  rintro e w3 ⟨rfl, L3⟩
  clear L2 c1
  go_wp2_with fail
  (with_reducible refine (ls_all L3 oa on oc ol L3.ob HOO.out (by simp [two, four]; omega)).mono ?_)
  rintro e w4 ⟨rfl, L4⟩
  have c10 := L4.sm.at_.cs.c10
  clear L3
  go_wp2_with fail
  (with_reducible refine (ls_all L4 b m bc s.body L4.sm.body HBO.out (by have := HOLEN.out; simp [two, four]; omega)).mono ?_)
  rintro e w5 ⟨rfl, L5⟩
  clear L4 c10
  obtain ⟨S, hw, hS⟩ := L5.ex
  have hb5 := Lib.hid L5.sm.below
  have hl5 := L5.le
  clear L5
  go_wp2_with fail
  (with_reducible refine (bytes_any _ S _ w5 hw).mono ?_)
  rintro e w6 ⟨v, rfl, hown, h6⟩
  obtain ⟨a6, c6, hv⟩ := own_form hown
  subst hv
  have HOWN := Lib.hid (own_base (base' := w.heap.size) hown (fun g hg => by have := (hown.lt g hg).1; omega))
  have HB6 := Lib.hid (hb5.out.trans (h6.mono hl5))
  clear hown hw h6
  go_wp2
  go_ret
  refine ⟨_, rfl, ?_, HB6.out⟩
  have := HOWN.out
  rw [← HR.out]
  simpa using this
end Go.Proofs.Ytdfenlagokndkaa.sg
