/-
  The law OctetReads of layer 2.
-/
import Derived.Test.YthkgdeehehjpmaaOctM
import Derived.Test.YthkgdeehehjpmaaOpen
import Derived.KernelRfl
namespace Go.Proofs.Ythkgdeehehjpmaa.oc
open Go.RowKit aid mem opn Go.ChangeShapes Go.WideShapes Go.ChangeAt
set_option linter.unusedVariables false

theorem quiet_ret {P : Program} {f : FuncId} {args : Array Value} {w : World} {n : Nat} {v : Value} (h : Calls P f args (w.drewN n) (RetQ v (w.drewN n))) :
    Calls P f args (w.drewN n) fun e w'' => e = .returned v ∧ ∃ m, w'' = w.drewN m :=
  h.mono fun _ _ ⟨he, m, hm⟩ => ⟨he, n + m, by rw [hm, World.drewN_drewN]⟩

/-- an item, as it came in -/
structure ItemV where
  kind : Int
  n : Int
  a : Option Addr
  len : Nat
  cap : Nat
  z : List Int
structure ItemIs (w : World) (cs : List Value) (v : ItemV) : Prop where
  cs : cs = [.int .u8 v.kind, .int .i64 v.n, .slice v.a v.len v.cap]
  b1 : 0 ≤ v.kind ∧ v.kind ≤ 255
  b2 : -9223372036854775808 ≤ v.n ∧ v.n ≤ 9223372036854775807
  row : IsRow .u8 w v.a v.len v.cap v.z

/-- what is left behind a thing that is read -/
def left (v : ItemV) (l : List Int) : List Int :=
  if v.kind % 4 = 3 then (if v.n < 0 then l else if (l.length : Int) < v.n then l else l.drop v.n.toNat)
  else if (l.length : Int) < sizeOfKind v.kind then l else l.drop (sizeOfKind v.kind).toNat

def ReadsPost (p : Nat) (S : List Nat) (B : Nat) (l' : List Int) (w : World) (e : Ending) (w' : World) : Prop :=
  ∃ a' cap', e = .returned (.tuple #[.slice a' l'.length cap', .bool true]) ∧ SlA .u8 w' a' l'.length cap' l' ∧ Rd w' p S l' ∧ (∀ x, a' = some x → 0 < cap' → x.block < B) ∧ Kept [p] w w'

theorem back1 (l : List Int) (h : ∀ x ∈ l, 0 ≤ x ∧ x ≤ 255) (hl : l.length = 1) : bytesTo (num l % 256) 1 1 = l := by
  match l, hl with
  | [a], _ =>
    have := h a (by simp)
    simp [bytesTo, num, pw, List.range_succ]
    omega
theorem back2 (l : List Int) (h : ∀ x ∈ l, 0 ≤ x ∧ x ≤ 255) (hl : l.length = 2) : bytesTo (num l % 65536) 2 2 = l := by
  match l, hl with
  | [a, b], _ =>
    have := h a (by simp)
    have := h b (by simp)
    simp [bytesTo, num, pw, List.range_succ]
    omega
theorem back4 (l : List Int) (h : ∀ x ∈ l, 0 ≤ x ∧ x ≤ 255) (hl : l.length = 4) : bytesTo (num l) 4 4 = l := by
  match l, hl with
  | [a, b, c, d], _ =>
    have := h a (by simp)
    have := h b (by simp)
    have := h c (by simp)
    have := h d (by simp)
    simp [bytesTo, num, pw, List.range_succ]
    omega
theorem zero1 : num (bytesTo 0 1 1) = 0 := by decide
theorem zero2 : num (bytesTo 0 2 2) = 0 := by decide
theorem zero4 : num (bytesTo 0 4 4) = 0 := by decide
theorem bytesTo_bd (n : Int) (s i : Nat) : ∀ x ∈ bytesTo n s i, 0 ≤ x ∧ x ≤ 255 := by
  intro x hx
  simp only [bytesTo, List.mem_map] at hx
  obtain ⟨j, _, rfl⟩ := hx
  omega

section
variable (p : Nat) (S : List Nat) (l : List Int) (a : Option Addr) (cap : Nat) (k n : Int) (xa : Option Addr) (xn xc : Nat) (w : World)

set_option maxRecDepth 100000 in
set_option maxHeartbeats 1600000 in
theorem reads0_short (hr : Rd w p S l) (hs : SlA .u8 w a l.length cap l) (B : Nat) (hpB : B ≤ p) (ha : ∀ x, a = some x → 0 < cap → x.block < B) (hb : ∀ x ∈ l, 0 ≤ x ∧ x ≤ 255) (hk : 0 ≤ k ∧ k ≤ 255) (hn : -9223372036854775808 ≤ n ∧ n ≤ 9223372036854775807) (hq : k % 4 = 0) (h : l.length < 1) :
    Calls Try.prog 33 #[.pointer (some ⟨p, 0, none⟩), .slice a l.length cap, .agg #[.int .u8 k, .int .i64 n, .slice xa xn xc]] w (ReadsPost p S B l w) := by
  have hsm := hr.small
  have hp0 : p < w.heap.size := by obtain ⟨_, _, h, _, _⟩ := hr.ex; exact World.block_lt_of_cell? w _ h
  have hle := hs.le
  have hm := hs.most
  unfold maxLen at hm
  have hK0 := ((Kept.refl [p] w)).alloc (.cells #[.int .u8 k, .int .i64 n, .slice xa xn xc] 46)
  have hr0 := hr.keep (((Kept.refl [] w)).alloc (.cells #[.int .u8 k, .int .i64 n, .slice xa xn xc] 46)) (by simp) (by simp)
  have hs0 := hs.keep (((Kept.refl [] w)).alloc (.cells #[.int .u8 k, .int .i64 n, .slice xa xn xc] 46)) (fun _ _ => by simp)
  clear hr hs
  go_enter Try.func33, Try.ntmps33
  go_wp2_with fail
  refine (size_any k _ hk).mono ?_
  rintro e w1 ⟨rfl, hb1⟩
  have hz : sizeOfKind k = 1 := by simp [sizeOfKind, hq]
  rw [hz]
  have hbk : w1.cell? ⟨w.heap.size, 0, none⟩ = some (.int .u8 k) := cell_later hb1 (World.cell?_alloc_at _ _ _ _ rfl)
  have hbn : w1.cell? ⟨w.heap.size, 1, none⟩ = some (.int .i64 n) := cell_later hb1 (World.cell?_alloc_at _ _ _ _ rfl)
  have hK1 := hK0.trans (Kept.of_below hb1 (Nat.le_refl _) []) (by simp)
  have hr1 := hr0.keep (Kept.of_below hb1 (Nat.le_refl _) []) (by simp) (by simp)
  have hs1 := hs0.keep (Kept.of_below hb1 (Nat.le_refl _) []) (fun _ _ => by simp)
  clear hK0 hr0 hs0 hb1 hz
  go_wp2_with fail
  refine (rone_short p S l _ hr1 h).mono ?_
  rintro e w' ⟨rfl, rfl⟩
  go_wp2_with fail
  refine (number_ref 0 1 _ (by omega) (by omega)).mono ?_
  rintro e w2 ⟨v, rfl, hown, hb2⟩
  obtain ⟨a2, cap2, hv, hsl2, _⟩ := sl_of_own hown
  rw [hv]
  clear hown hv
  have hK2 := hK1.trans (Kept.of_below hb2 (Nat.le_refl _) []) (by simp)
  have hr2 := hr1.keep (Kept.of_below hb2 (Nat.le_refl _) []) (by simp) (by simp)
  have hs2 := hs1.keep (Kept.of_below hb2 (Nat.le_refl _) []) (fun _ _ => by simp)
  clear hK1 hr1 hs1 hb2
  go_wp2_with fail
  refine (value_any a2 1 cap2 _ w2 hsl2 (bytesTo_bd _ _ _)).mono ?_
  rintro e w' ⟨rfl, rfl⟩
  rw [zero1]
  go_wp2_with fail
  go_ret2
  exact ⟨a, cap, rfl, hs2, hr2, ha, hK2⟩

set_option maxRecDepth 100000 in
set_option maxHeartbeats 1600000 in
theorem reads0_end (hr : Rd w p S l) (hs : SlA .u8 w a l.length cap l) (B : Nat) (hpB : B ≤ p) (ha : ∀ x, a = some x → 0 < cap → x.block < B) (hb : ∀ x ∈ l, 0 ≤ x ∧ x ≤ 255) (hk : 0 ≤ k ∧ k ≤ 255) (hn : -9223372036854775808 ≤ n ∧ n ≤ 9223372036854775807) (hq : k % 4 = 0) (h : 1 ≤ l.length) (hc : cap = 1) :
    Calls Try.prog 33 #[.pointer (some ⟨p, 0, none⟩), .slice a l.length cap, .agg #[.int .u8 k, .int .i64 n, .slice xa xn xc]] w (ReadsPost p S B (l.drop 1) w) := by
  subst hc
  have hsm := hr.small
  have hp0 : p < w.heap.size := by obtain ⟨_, _, h, _, _⟩ := hr.ex; exact World.block_lt_of_cell? w _ h
  have hle := hs.le
  have hm := hs.most
  unfold maxLen at hm
  have hK0 := ((Kept.refl [p] w)).alloc (.cells #[.int .u8 k, .int .i64 n, .slice xa xn xc] 46)
  have hr0 := hr.keep (((Kept.refl [] w)).alloc (.cells #[.int .u8 k, .int .i64 n, .slice xa xn xc] 46)) (by simp) (by simp)
  have hs0 := hs.keep (((Kept.refl [] w)).alloc (.cells #[.int .u8 k, .int .i64 n, .slice xa xn xc] 46)) (fun _ _ => by simp)
  clear hr hs
  go_enter Try.func33, Try.ntmps33
  go_wp2_with fail
  refine (size_any k _ hk).mono ?_
  rintro e w1 ⟨rfl, hb1⟩
  have hz : sizeOfKind k = 1 := by simp [sizeOfKind, hq]
  rw [hz]
  have hbk : w1.cell? ⟨w.heap.size, 0, none⟩ = some (.int .u8 k) := cell_later hb1 (World.cell?_alloc_at _ _ _ _ rfl)
  have hbn : w1.cell? ⟨w.heap.size, 1, none⟩ = some (.int .i64 n) := cell_later hb1 (World.cell?_alloc_at _ _ _ _ rfl)
  have hK1 := hK0.trans (Kept.of_below hb1 (Nat.le_refl _) []) (by simp)
  have hr1 := hr0.keep (Kept.of_below hb1 (Nat.le_refl _) []) (by simp) (by simp)
  have hs1 := hs0.keep (Kept.of_below hb1 (Nat.le_refl _) []) (fun _ _ => by simp)
  clear hK0 hr0 hs0 hb1 hz
  go_wp2_with fail
  refine (rone_some p S l _ hr1 hb h).mono ?_
  rintro e w2 ⟨rfl, hr2, hk2⟩
  have hK2 := hK1.trans hk2 (by simp)
  have hs2 := hs1.keepIf hk2 (fun x hx h => by have := ha x hx h; simp; omega)
  clear hK1 hr1 hs1 hk2 hbk hbn
  go_wp2_with fail
  have hnb := num_bd (l.take 1)
  refine (number_ref (num (l.take 1) % 256) 1 _ (by omega) (by omega)).mono ?_
  rintro e w3 ⟨v, rfl, hown, hb3⟩
  rw [back1 (l.take 1) (fun x hx => hb x (List.mem_of_mem_take hx)) (by simp; omega)] at hown
  obtain ⟨a3, cap3, hv, hsl3, _⟩ := sl_of_own hown
  rw [hv]
  clear hown hv
  have hK3 := hK2.trans (Kept.of_below hb3 (Nat.le_refl _) []) (by simp)
  have hr3 := hr2.keep (Kept.of_below hb3 (Nat.le_refl _) []) (by simp) (by simp)
  have hs3 := hs2.keep (Kept.of_below hb3 (Nat.le_refl _) []) (fun _ _ => by simp)
  clear hK2 hr2 hs2 hb3 hnb hb
  go_wp2_with fail
  go_quiet ((go_at_call 30; go_must (exact quiet_ret (same_true _ _ 1 _ _ (l.take 1) _ (hsl3.drewN _) ((hs3.take 1 h).drewN _)))))
  go_wp2
  go_ret2
  have hz : (l.drop 1).length = 0 := by simp; omega
  have hz2 : l.length - 1 = 0 := by omega
  have hse := (hs3.drop_end 1 h rfl)
  rw [hz2] at hse
  refine ⟨a, 0, ?_, ?_, hr3.keep ((Kept.refl [] w3).drewN _) (by simp) (by simp), fun x hx h => by omega, hK3.drewN _⟩
  · rw [hz]; rfl
  · rw [hz]; exact (hse.drewN _)

set_option maxRecDepth 100000 in
set_option maxHeartbeats 1600000 in
theorem reads0_mid (hr : Rd w p S l) (hs : SlA .u8 w a l.length cap l) (B : Nat) (hpB : B ≤ p) (ha : ∀ x, a = some x → 0 < cap → x.block < B) (hb : ∀ x ∈ l, 0 ≤ x ∧ x ≤ 255) (hk : 0 ≤ k ∧ k ≤ 255) (hn : -9223372036854775808 ≤ n ∧ n ≤ 9223372036854775807) (hq : k % 4 = 0) (h : 1 ≤ l.length) (hc : cap ≠ 1) :
    Calls Try.prog 33 #[.pointer (some ⟨p, 0, none⟩), .slice a l.length cap, .agg #[.int .u8 k, .int .i64 n, .slice xa xn xc]] w (ReadsPost p S B (l.drop 1) w) := by
  obtain ⟨b, off, rfl, _⟩ := hs.cells (by have := hs.le; omega)
  have hsm := hr.small
  have hp0 : p < w.heap.size := by obtain ⟨_, _, h, _, _⟩ := hr.ex; exact World.block_lt_of_cell? w _ h
  have hle := hs.le
  have hm := hs.most
  unfold maxLen at hm
  have hK0 := ((Kept.refl [p] w)).alloc (.cells #[.int .u8 k, .int .i64 n, .slice xa xn xc] 46)
  have hr0 := hr.keep (((Kept.refl [] w)).alloc (.cells #[.int .u8 k, .int .i64 n, .slice xa xn xc] 46)) (by simp) (by simp)
  have hs0 := hs.keep (((Kept.refl [] w)).alloc (.cells #[.int .u8 k, .int .i64 n, .slice xa xn xc] 46)) (fun _ _ => by simp)
  clear hr hs
  go_enter Try.func33, Try.ntmps33
  go_wp2_with fail
  refine (size_any k _ hk).mono ?_
  rintro e w1 ⟨rfl, hb1⟩
  have hz : sizeOfKind k = 1 := by simp [sizeOfKind, hq]
  rw [hz]
  have hbk : w1.cell? ⟨w.heap.size, 0, none⟩ = some (.int .u8 k) := cell_later hb1 (World.cell?_alloc_at _ _ _ _ rfl)
  have hbn : w1.cell? ⟨w.heap.size, 1, none⟩ = some (.int .i64 n) := cell_later hb1 (World.cell?_alloc_at _ _ _ _ rfl)
  have hK1 := hK0.trans (Kept.of_below hb1 (Nat.le_refl _) []) (by simp)
  have hr1 := hr0.keep (Kept.of_below hb1 (Nat.le_refl _) []) (by simp) (by simp)
  have hs1 := hs0.keep (Kept.of_below hb1 (Nat.le_refl _) []) (fun _ _ => by simp)
  clear hK0 hr0 hs0 hb1 hz
  go_wp2_with fail
  refine (rone_some p S l _ hr1 hb h).mono ?_
  rintro e w2 ⟨rfl, hr2, hk2⟩
  have hK2 := hK1.trans hk2 (by simp)
  have hs2 := hs1.keepIf hk2 (fun x hx h => by have := ha x hx h; simp; omega)
  clear hK1 hr1 hs1 hk2 hbk hbn
  go_wp2_with fail
  have hnb := num_bd (l.take 1)
  refine (number_ref (num (l.take 1) % 256) 1 _ (by omega) (by omega)).mono ?_
  rintro e w3 ⟨v, rfl, hown, hb3⟩
  rw [back1 (l.take 1) (fun x hx => hb x (List.mem_of_mem_take hx)) (by simp; omega)] at hown
  obtain ⟨a3, cap3, hv, hsl3, _⟩ := sl_of_own hown
  rw [hv]
  clear hown hv
  have hK3 := hK2.trans (Kept.of_below hb3 (Nat.le_refl _) []) (by simp)
  have hr3 := hr2.keep (Kept.of_below hb3 (Nat.le_refl _) []) (by simp) (by simp)
  have hs3 := hs2.keep (Kept.of_below hb3 (Nat.le_refl _) []) (fun _ _ => by simp)
  clear hK2 hr2 hs2 hb3 hnb hb
  go_wp2_with fail
  go_quiet ((go_at_call 30; go_must (exact quiet_ret (same_true _ _ 1 _ _ (l.take 1) _ (hsl3.drewN _) ((hs3.take 1 h).drewN _)))))
  go_wp2
  go_ret2
  have hz : l.length - 1 = (l.drop 1).length := by simp
  refine ⟨some ⟨b, off + 1, none⟩, cap - 1, ?_, ?_, hr3.keep ((Kept.refl [] w3).drewN _) (by simp) (by simp), fun x hx h => by injection hx with hx; subst hx; exact ha ⟨b, off, none⟩ rfl (by omega), hK3.drewN _⟩
  · rw [← hz]; rfl
  · rw [← hz]; exact ((hs3.drop 1 h hc).drewN _)

set_option maxRecDepth 100000 in
set_option maxHeartbeats 1600000 in
theorem reads1_short (hr : Rd w p S l) (hs : SlA .u8 w a l.length cap l) (B : Nat) (hpB : B ≤ p) (ha : ∀ x, a = some x → 0 < cap → x.block < B) (hb : ∀ x ∈ l, 0 ≤ x ∧ x ≤ 255) (hk : 0 ≤ k ∧ k ≤ 255) (hn : -9223372036854775808 ≤ n ∧ n ≤ 9223372036854775807) (hq : k % 4 = 1) (h : l.length < 2) :
    Calls Try.prog 33 #[.pointer (some ⟨p, 0, none⟩), .slice a l.length cap, .agg #[.int .u8 k, .int .i64 n, .slice xa xn xc]] w (ReadsPost p S B l w) := by
  have hsm := hr.small
  have hp0 : p < w.heap.size := by obtain ⟨_, _, h, _, _⟩ := hr.ex; exact World.block_lt_of_cell? w _ h
  have hle := hs.le
  have hm := hs.most
  unfold maxLen at hm
  have hK0 := ((Kept.refl [p] w)).alloc (.cells #[.int .u8 k, .int .i64 n, .slice xa xn xc] 46)
  have hr0 := hr.keep (((Kept.refl [] w)).alloc (.cells #[.int .u8 k, .int .i64 n, .slice xa xn xc] 46)) (by simp) (by simp)
  have hs0 := hs.keep (((Kept.refl [] w)).alloc (.cells #[.int .u8 k, .int .i64 n, .slice xa xn xc] 46)) (fun _ _ => by simp)
  clear hr hs
  go_enter Try.func33, Try.ntmps33
  go_wp2_with fail
  refine (size_any k _ hk).mono ?_
  rintro e w1 ⟨rfl, hb1⟩
  have hz : sizeOfKind k = 2 := by simp [sizeOfKind, hq]
  rw [hz]
  have hbk : w1.cell? ⟨w.heap.size, 0, none⟩ = some (.int .u8 k) := cell_later hb1 (World.cell?_alloc_at _ _ _ _ rfl)
  have hbn : w1.cell? ⟨w.heap.size, 1, none⟩ = some (.int .i64 n) := cell_later hb1 (World.cell?_alloc_at _ _ _ _ rfl)
  have hK1 := hK0.trans (Kept.of_below hb1 (Nat.le_refl _) []) (by simp)
  have hr1 := hr0.keep (Kept.of_below hb1 (Nat.le_refl _) []) (by simp) (by simp)
  have hs1 := hs0.keep (Kept.of_below hb1 (Nat.le_refl _) []) (fun _ _ => by simp)
  clear hK0 hr0 hs0 hb1 hz
  go_wp2_with fail
  refine (rtwo_short p S l _ hr1 h).mono ?_
  rintro e w' ⟨rfl, rfl⟩
  go_wp2_with fail
  refine (number_ref 0 2 _ (by omega) (by omega)).mono ?_
  rintro e w2 ⟨v, rfl, hown, hb2⟩
  obtain ⟨a2, cap2, hv, hsl2, _⟩ := sl_of_own hown
  rw [hv]
  clear hown hv
  have hK2 := hK1.trans (Kept.of_below hb2 (Nat.le_refl _) []) (by simp)
  have hr2 := hr1.keep (Kept.of_below hb2 (Nat.le_refl _) []) (by simp) (by simp)
  have hs2 := hs1.keep (Kept.of_below hb2 (Nat.le_refl _) []) (fun _ _ => by simp)
  clear hK1 hr1 hs1 hb2
  go_wp2_with fail
  refine (value_any a2 2 cap2 _ w2 hsl2 (bytesTo_bd _ _ _)).mono ?_
  rintro e w' ⟨rfl, rfl⟩
  rw [zero2]
  go_wp2_with fail
  go_ret2
  exact ⟨a, cap, rfl, hs2, hr2, ha, hK2⟩

set_option maxRecDepth 100000 in
set_option maxHeartbeats 1600000 in
theorem reads1_end (hr : Rd w p S l) (hs : SlA .u8 w a l.length cap l) (B : Nat) (hpB : B ≤ p) (ha : ∀ x, a = some x → 0 < cap → x.block < B) (hb : ∀ x ∈ l, 0 ≤ x ∧ x ≤ 255) (hk : 0 ≤ k ∧ k ≤ 255) (hn : -9223372036854775808 ≤ n ∧ n ≤ 9223372036854775807) (hq : k % 4 = 1) (h : 2 ≤ l.length) (hc : cap = 2) :
    Calls Try.prog 33 #[.pointer (some ⟨p, 0, none⟩), .slice a l.length cap, .agg #[.int .u8 k, .int .i64 n, .slice xa xn xc]] w (ReadsPost p S B (l.drop 2) w) := by
  subst hc
  have hsm := hr.small
  have hp0 : p < w.heap.size := by obtain ⟨_, _, h, _, _⟩ := hr.ex; exact World.block_lt_of_cell? w _ h
  have hle := hs.le
  have hm := hs.most
  unfold maxLen at hm
  have hK0 := ((Kept.refl [p] w)).alloc (.cells #[.int .u8 k, .int .i64 n, .slice xa xn xc] 46)
  have hr0 := hr.keep (((Kept.refl [] w)).alloc (.cells #[.int .u8 k, .int .i64 n, .slice xa xn xc] 46)) (by simp) (by simp)
  have hs0 := hs.keep (((Kept.refl [] w)).alloc (.cells #[.int .u8 k, .int .i64 n, .slice xa xn xc] 46)) (fun _ _ => by simp)
  clear hr hs
  go_enter Try.func33, Try.ntmps33
  go_wp2_with fail
  refine (size_any k _ hk).mono ?_
  rintro e w1 ⟨rfl, hb1⟩
  have hz : sizeOfKind k = 2 := by simp [sizeOfKind, hq]
  rw [hz]
  have hbk : w1.cell? ⟨w.heap.size, 0, none⟩ = some (.int .u8 k) := cell_later hb1 (World.cell?_alloc_at _ _ _ _ rfl)
  have hbn : w1.cell? ⟨w.heap.size, 1, none⟩ = some (.int .i64 n) := cell_later hb1 (World.cell?_alloc_at _ _ _ _ rfl)
  have hK1 := hK0.trans (Kept.of_below hb1 (Nat.le_refl _) []) (by simp)
  have hr1 := hr0.keep (Kept.of_below hb1 (Nat.le_refl _) []) (by simp) (by simp)
  have hs1 := hs0.keep (Kept.of_below hb1 (Nat.le_refl _) []) (fun _ _ => by simp)
  clear hK0 hr0 hs0 hb1 hz
  go_wp2_with fail
  refine (rtwo_some p S l _ hr1 hb h).mono ?_
  rintro e w2 ⟨rfl, hr2, hk2⟩
  have hK2 := hK1.trans hk2 (by simp)
  have hs2 := hs1.keepIf hk2 (fun x hx h => by have := ha x hx h; simp; omega)
  clear hK1 hr1 hs1 hk2 hbk hbn
  go_wp2_with fail
  have hnb := num_bd (l.take 2)
  refine (number_ref (num (l.take 2) % 65536) 2 _ (by omega) (by omega)).mono ?_
  rintro e w3 ⟨v, rfl, hown, hb3⟩
  rw [back2 (l.take 2) (fun x hx => hb x (List.mem_of_mem_take hx)) (by simp; omega)] at hown
  obtain ⟨a3, cap3, hv, hsl3, _⟩ := sl_of_own hown
  rw [hv]
  clear hown hv
  have hK3 := hK2.trans (Kept.of_below hb3 (Nat.le_refl _) []) (by simp)
  have hr3 := hr2.keep (Kept.of_below hb3 (Nat.le_refl _) []) (by simp) (by simp)
  have hs3 := hs2.keep (Kept.of_below hb3 (Nat.le_refl _) []) (fun _ _ => by simp)
  clear hK2 hr2 hs2 hb3 hnb hb
  go_wp2_with fail
  go_quiet ((go_at_call 30; go_must (exact quiet_ret (same_true _ _ 2 _ _ (l.take 2) _ (hsl3.drewN _) ((hs3.take 2 h).drewN _)))))
  go_wp2
  go_ret2
  have hz : (l.drop 2).length = 0 := by simp; omega
  have hz2 : l.length - 2 = 0 := by omega
  have hse := (hs3.drop_end 2 h rfl)
  rw [hz2] at hse
  refine ⟨a, 0, ?_, ?_, hr3.keep ((Kept.refl [] w3).drewN _) (by simp) (by simp), fun x hx h => by omega, hK3.drewN _⟩
  · rw [hz]; rfl
  · rw [hz]; exact (hse.drewN _)

set_option maxRecDepth 100000 in
set_option maxHeartbeats 1600000 in
theorem reads1_mid (hr : Rd w p S l) (hs : SlA .u8 w a l.length cap l) (B : Nat) (hpB : B ≤ p) (ha : ∀ x, a = some x → 0 < cap → x.block < B) (hb : ∀ x ∈ l, 0 ≤ x ∧ x ≤ 255) (hk : 0 ≤ k ∧ k ≤ 255) (hn : -9223372036854775808 ≤ n ∧ n ≤ 9223372036854775807) (hq : k % 4 = 1) (h : 2 ≤ l.length) (hc : cap ≠ 2) :
    Calls Try.prog 33 #[.pointer (some ⟨p, 0, none⟩), .slice a l.length cap, .agg #[.int .u8 k, .int .i64 n, .slice xa xn xc]] w (ReadsPost p S B (l.drop 2) w) := by
  obtain ⟨b, off, rfl, _⟩ := hs.cells (by have := hs.le; omega)
  have hsm := hr.small
  have hp0 : p < w.heap.size := by obtain ⟨_, _, h, _, _⟩ := hr.ex; exact World.block_lt_of_cell? w _ h
  have hle := hs.le
  have hm := hs.most
  unfold maxLen at hm
  have hK0 := ((Kept.refl [p] w)).alloc (.cells #[.int .u8 k, .int .i64 n, .slice xa xn xc] 46)
  have hr0 := hr.keep (((Kept.refl [] w)).alloc (.cells #[.int .u8 k, .int .i64 n, .slice xa xn xc] 46)) (by simp) (by simp)
  have hs0 := hs.keep (((Kept.refl [] w)).alloc (.cells #[.int .u8 k, .int .i64 n, .slice xa xn xc] 46)) (fun _ _ => by simp)
  clear hr hs
  go_enter Try.func33, Try.ntmps33
  go_wp2_with fail
  refine (size_any k _ hk).mono ?_
  rintro e w1 ⟨rfl, hb1⟩
  have hz : sizeOfKind k = 2 := by simp [sizeOfKind, hq]
  rw [hz]
  have hbk : w1.cell? ⟨w.heap.size, 0, none⟩ = some (.int .u8 k) := cell_later hb1 (World.cell?_alloc_at _ _ _ _ rfl)
  have hbn : w1.cell? ⟨w.heap.size, 1, none⟩ = some (.int .i64 n) := cell_later hb1 (World.cell?_alloc_at _ _ _ _ rfl)
  have hK1 := hK0.trans (Kept.of_below hb1 (Nat.le_refl _) []) (by simp)
  have hr1 := hr0.keep (Kept.of_below hb1 (Nat.le_refl _) []) (by simp) (by simp)
  have hs1 := hs0.keep (Kept.of_below hb1 (Nat.le_refl _) []) (fun _ _ => by simp)
  clear hK0 hr0 hs0 hb1 hz
  go_wp2_with fail
  refine (rtwo_some p S l _ hr1 hb h).mono ?_
  rintro e w2 ⟨rfl, hr2, hk2⟩
  have hK2 := hK1.trans hk2 (by simp)
  have hs2 := hs1.keepIf hk2 (fun x hx h => by have := ha x hx h; simp; omega)
  clear hK1 hr1 hs1 hk2 hbk hbn
  go_wp2_with fail
  have hnb := num_bd (l.take 2)
  refine (number_ref (num (l.take 2) % 65536) 2 _ (by omega) (by omega)).mono ?_
  rintro e w3 ⟨v, rfl, hown, hb3⟩
  rw [back2 (l.take 2) (fun x hx => hb x (List.mem_of_mem_take hx)) (by simp; omega)] at hown
  obtain ⟨a3, cap3, hv, hsl3, _⟩ := sl_of_own hown
  rw [hv]
  clear hown hv
  have hK3 := hK2.trans (Kept.of_below hb3 (Nat.le_refl _) []) (by simp)
  have hr3 := hr2.keep (Kept.of_below hb3 (Nat.le_refl _) []) (by simp) (by simp)
  have hs3 := hs2.keep (Kept.of_below hb3 (Nat.le_refl _) []) (fun _ _ => by simp)
  clear hK2 hr2 hs2 hb3 hnb hb
  go_wp2_with fail
  go_quiet ((go_at_call 30; go_must (exact quiet_ret (same_true _ _ 2 _ _ (l.take 2) _ (hsl3.drewN _) ((hs3.take 2 h).drewN _)))))
  go_wp2
  go_ret2
  have hz : l.length - 2 = (l.drop 2).length := by simp
  refine ⟨some ⟨b, off + 2, none⟩, cap - 2, ?_, ?_, hr3.keep ((Kept.refl [] w3).drewN _) (by simp) (by simp), fun x hx h => by injection hx with hx; subst hx; exact ha ⟨b, off, none⟩ rfl (by omega), hK3.drewN _⟩
  · rw [← hz]; rfl
  · rw [← hz]; exact ((hs3.drop 2 h hc).drewN _)

set_option maxRecDepth 100000 in
set_option maxHeartbeats 1600000 in
theorem reads2_short (hr : Rd w p S l) (hs : SlA .u8 w a l.length cap l) (B : Nat) (hpB : B ≤ p) (ha : ∀ x, a = some x → 0 < cap → x.block < B) (hb : ∀ x ∈ l, 0 ≤ x ∧ x ≤ 255) (hk : 0 ≤ k ∧ k ≤ 255) (hn : -9223372036854775808 ≤ n ∧ n ≤ 9223372036854775807) (hq : k % 4 = 2) (h : l.length < 4) :
    Calls Try.prog 33 #[.pointer (some ⟨p, 0, none⟩), .slice a l.length cap, .agg #[.int .u8 k, .int .i64 n, .slice xa xn xc]] w (ReadsPost p S B l w) := by
  have hsm := hr.small
  have hp0 : p < w.heap.size := by obtain ⟨_, _, h, _, _⟩ := hr.ex; exact World.block_lt_of_cell? w _ h
  have hle := hs.le
  have hm := hs.most
  unfold maxLen at hm
  have hK0 := ((Kept.refl [p] w)).alloc (.cells #[.int .u8 k, .int .i64 n, .slice xa xn xc] 46)
  have hr0 := hr.keep (((Kept.refl [] w)).alloc (.cells #[.int .u8 k, .int .i64 n, .slice xa xn xc] 46)) (by simp) (by simp)
  have hs0 := hs.keep (((Kept.refl [] w)).alloc (.cells #[.int .u8 k, .int .i64 n, .slice xa xn xc] 46)) (fun _ _ => by simp)
  clear hr hs
  go_enter Try.func33, Try.ntmps33
  go_wp2_with fail
  refine (size_any k _ hk).mono ?_
  rintro e w1 ⟨rfl, hb1⟩
  have hz : sizeOfKind k = 4 := by simp [sizeOfKind, hq]
  rw [hz]
  have hbk : w1.cell? ⟨w.heap.size, 0, none⟩ = some (.int .u8 k) := cell_later hb1 (World.cell?_alloc_at _ _ _ _ rfl)
  have hbn : w1.cell? ⟨w.heap.size, 1, none⟩ = some (.int .i64 n) := cell_later hb1 (World.cell?_alloc_at _ _ _ _ rfl)
  have hK1 := hK0.trans (Kept.of_below hb1 (Nat.le_refl _) []) (by simp)
  have hr1 := hr0.keep (Kept.of_below hb1 (Nat.le_refl _) []) (by simp) (by simp)
  have hs1 := hs0.keep (Kept.of_below hb1 (Nat.le_refl _) []) (fun _ _ => by simp)
  clear hK0 hr0 hs0 hb1 hz
  go_wp2_with fail
  refine (rfour_short p S l _ hr1 h).mono ?_
  rintro e w' ⟨rfl, rfl⟩
  go_wp2_with fail
  refine (number_ref 0 4 _ (by omega) (by omega)).mono ?_
  rintro e w2 ⟨v, rfl, hown, hb2⟩
  obtain ⟨a2, cap2, hv, hsl2, _⟩ := sl_of_own hown
  rw [hv]
  clear hown hv
  have hK2 := hK1.trans (Kept.of_below hb2 (Nat.le_refl _) []) (by simp)
  have hr2 := hr1.keep (Kept.of_below hb2 (Nat.le_refl _) []) (by simp) (by simp)
  have hs2 := hs1.keep (Kept.of_below hb2 (Nat.le_refl _) []) (fun _ _ => by simp)
  clear hK1 hr1 hs1 hb2
  go_wp2_with fail
  refine (value_any a2 4 cap2 _ w2 hsl2 (bytesTo_bd _ _ _)).mono ?_
  rintro e w' ⟨rfl, rfl⟩
  rw [zero4]
  go_wp2_with fail
  go_ret2
  exact ⟨a, cap, rfl, hs2, hr2, ha, hK2⟩

set_option maxRecDepth 100000 in
set_option maxHeartbeats 1600000 in
theorem reads2_end (hr : Rd w p S l) (hs : SlA .u8 w a l.length cap l) (B : Nat) (hpB : B ≤ p) (ha : ∀ x, a = some x → 0 < cap → x.block < B) (hb : ∀ x ∈ l, 0 ≤ x ∧ x ≤ 255) (hk : 0 ≤ k ∧ k ≤ 255) (hn : -9223372036854775808 ≤ n ∧ n ≤ 9223372036854775807) (hq : k % 4 = 2) (h : 4 ≤ l.length) (hc : cap = 4) :
    Calls Try.prog 33 #[.pointer (some ⟨p, 0, none⟩), .slice a l.length cap, .agg #[.int .u8 k, .int .i64 n, .slice xa xn xc]] w (ReadsPost p S B (l.drop 4) w) := by
  subst hc
  have hsm := hr.small
  have hp0 : p < w.heap.size := by obtain ⟨_, _, h, _, _⟩ := hr.ex; exact World.block_lt_of_cell? w _ h
  have hle := hs.le
  have hm := hs.most
  unfold maxLen at hm
  have hK0 := ((Kept.refl [p] w)).alloc (.cells #[.int .u8 k, .int .i64 n, .slice xa xn xc] 46)
  have hr0 := hr.keep (((Kept.refl [] w)).alloc (.cells #[.int .u8 k, .int .i64 n, .slice xa xn xc] 46)) (by simp) (by simp)
  have hs0 := hs.keep (((Kept.refl [] w)).alloc (.cells #[.int .u8 k, .int .i64 n, .slice xa xn xc] 46)) (fun _ _ => by simp)
  clear hr hs
  go_enter Try.func33, Try.ntmps33
  go_wp2_with fail
  refine (size_any k _ hk).mono ?_
  rintro e w1 ⟨rfl, hb1⟩
  have hz : sizeOfKind k = 4 := by simp [sizeOfKind, hq]
  rw [hz]
  have hbk : w1.cell? ⟨w.heap.size, 0, none⟩ = some (.int .u8 k) := cell_later hb1 (World.cell?_alloc_at _ _ _ _ rfl)
  have hbn : w1.cell? ⟨w.heap.size, 1, none⟩ = some (.int .i64 n) := cell_later hb1 (World.cell?_alloc_at _ _ _ _ rfl)
  have hK1 := hK0.trans (Kept.of_below hb1 (Nat.le_refl _) []) (by simp)
  have hr1 := hr0.keep (Kept.of_below hb1 (Nat.le_refl _) []) (by simp) (by simp)
  have hs1 := hs0.keep (Kept.of_below hb1 (Nat.le_refl _) []) (fun _ _ => by simp)
  clear hK0 hr0 hs0 hb1 hz
  go_wp2_with fail
  refine (rfour_some p S l _ hr1 hb h).mono ?_
  rintro e w2 ⟨rfl, hr2, hk2⟩
  have hK2 := hK1.trans hk2 (by simp)
  have hs2 := hs1.keepIf hk2 (fun x hx h => by have := ha x hx h; simp; omega)
  clear hK1 hr1 hs1 hk2 hbk hbn
  go_wp2_with fail
  have hnb := num_bd (l.take 4)
  refine (number_ref (num (l.take 4)) 4 _ (by omega) (by omega)).mono ?_
  rintro e w3 ⟨v, rfl, hown, hb3⟩
  rw [back4 (l.take 4) (fun x hx => hb x (List.mem_of_mem_take hx)) (by simp; omega)] at hown
  obtain ⟨a3, cap3, hv, hsl3, _⟩ := sl_of_own hown
  rw [hv]
  clear hown hv
  have hK3 := hK2.trans (Kept.of_below hb3 (Nat.le_refl _) []) (by simp)
  have hr3 := hr2.keep (Kept.of_below hb3 (Nat.le_refl _) []) (by simp) (by simp)
  have hs3 := hs2.keep (Kept.of_below hb3 (Nat.le_refl _) []) (fun _ _ => by simp)
  clear hK2 hr2 hs2 hb3 hnb hb
  go_wp2_with fail
  go_quiet ((go_at_call 30; go_must (exact quiet_ret (same_true _ _ 4 _ _ (l.take 4) _ (hsl3.drewN _) ((hs3.take 4 h).drewN _)))))
  go_wp2
  go_ret2
  have hz : (l.drop 4).length = 0 := by simp; omega
  have hz2 : l.length - 4 = 0 := by omega
  have hse := (hs3.drop_end 4 h rfl)
  rw [hz2] at hse
  refine ⟨a, 0, ?_, ?_, hr3.keep ((Kept.refl [] w3).drewN _) (by simp) (by simp), fun x hx h => by omega, hK3.drewN _⟩
  · rw [hz]; rfl
  · rw [hz]; exact (hse.drewN _)

set_option maxRecDepth 100000 in
set_option maxHeartbeats 1600000 in
theorem reads2_mid (hr : Rd w p S l) (hs : SlA .u8 w a l.length cap l) (B : Nat) (hpB : B ≤ p) (ha : ∀ x, a = some x → 0 < cap → x.block < B) (hb : ∀ x ∈ l, 0 ≤ x ∧ x ≤ 255) (hk : 0 ≤ k ∧ k ≤ 255) (hn : -9223372036854775808 ≤ n ∧ n ≤ 9223372036854775807) (hq : k % 4 = 2) (h : 4 ≤ l.length) (hc : cap ≠ 4) :
    Calls Try.prog 33 #[.pointer (some ⟨p, 0, none⟩), .slice a l.length cap, .agg #[.int .u8 k, .int .i64 n, .slice xa xn xc]] w (ReadsPost p S B (l.drop 4) w) := by
  obtain ⟨b, off, rfl, _⟩ := hs.cells (by have := hs.le; omega)
  have hsm := hr.small
  have hp0 : p < w.heap.size := by obtain ⟨_, _, h, _, _⟩ := hr.ex; exact World.block_lt_of_cell? w _ h
  have hle := hs.le
  have hm := hs.most
  unfold maxLen at hm
  have hK0 := ((Kept.refl [p] w)).alloc (.cells #[.int .u8 k, .int .i64 n, .slice xa xn xc] 46)
  have hr0 := hr.keep (((Kept.refl [] w)).alloc (.cells #[.int .u8 k, .int .i64 n, .slice xa xn xc] 46)) (by simp) (by simp)
  have hs0 := hs.keep (((Kept.refl [] w)).alloc (.cells #[.int .u8 k, .int .i64 n, .slice xa xn xc] 46)) (fun _ _ => by simp)
  clear hr hs
  go_enter Try.func33, Try.ntmps33
  go_wp2_with fail
  refine (size_any k _ hk).mono ?_
  rintro e w1 ⟨rfl, hb1⟩
  have hz : sizeOfKind k = 4 := by simp [sizeOfKind, hq]
  rw [hz]
  have hbk : w1.cell? ⟨w.heap.size, 0, none⟩ = some (.int .u8 k) := cell_later hb1 (World.cell?_alloc_at _ _ _ _ rfl)
  have hbn : w1.cell? ⟨w.heap.size, 1, none⟩ = some (.int .i64 n) := cell_later hb1 (World.cell?_alloc_at _ _ _ _ rfl)
  have hK1 := hK0.trans (Kept.of_below hb1 (Nat.le_refl _) []) (by simp)
  have hr1 := hr0.keep (Kept.of_below hb1 (Nat.le_refl _) []) (by simp) (by simp)
  have hs1 := hs0.keep (Kept.of_below hb1 (Nat.le_refl _) []) (fun _ _ => by simp)
  clear hK0 hr0 hs0 hb1 hz
  go_wp2_with fail
  refine (rfour_some p S l _ hr1 hb h).mono ?_
  rintro e w2 ⟨rfl, hr2, hk2⟩
  have hK2 := hK1.trans hk2 (by simp)
  have hs2 := hs1.keepIf hk2 (fun x hx h => by have := ha x hx h; simp; omega)
  clear hK1 hr1 hs1 hk2 hbk hbn
  go_wp2_with fail
  have hnb := num_bd (l.take 4)
  refine (number_ref (num (l.take 4)) 4 _ (by omega) (by omega)).mono ?_
  rintro e w3 ⟨v, rfl, hown, hb3⟩
  rw [back4 (l.take 4) (fun x hx => hb x (List.mem_of_mem_take hx)) (by simp; omega)] at hown
  obtain ⟨a3, cap3, hv, hsl3, _⟩ := sl_of_own hown
  rw [hv]
  clear hown hv
  have hK3 := hK2.trans (Kept.of_below hb3 (Nat.le_refl _) []) (by simp)
  have hr3 := hr2.keep (Kept.of_below hb3 (Nat.le_refl _) []) (by simp) (by simp)
  have hs3 := hs2.keep (Kept.of_below hb3 (Nat.le_refl _) []) (fun _ _ => by simp)
  clear hK2 hr2 hs2 hb3 hnb hb
  go_wp2_with fail
  go_quiet ((go_at_call 30; go_must (exact quiet_ret (same_true _ _ 4 _ _ (l.take 4) _ (hsl3.drewN _) ((hs3.take 4 h).drewN _)))))
  go_wp2
  go_ret2
  have hz : l.length - 4 = (l.drop 4).length := by simp
  refine ⟨some ⟨b, off + 4, none⟩, cap - 4, ?_, ?_, hr3.keep ((Kept.refl [] w3).drewN _) (by simp) (by simp), fun x hx h => by injection hx with hx; subst hx; exact ha ⟨b, off, none⟩ rfl (by omega), hK3.drewN _⟩
  · rw [← hz]; rfl
  · rw [← hz]; exact ((hs3.drop 4 h hc).drewN _)

set_option maxRecDepth 100000 in
set_option maxHeartbeats 1600000 in
theorem reads3_neg (hr : Rd w p S l) (hs : SlA .u8 w a l.length cap l) (B : Nat) (hpB : B ≤ p) (ha : ∀ x, a = some x → 0 < cap → x.block < B) (hb : ∀ x ∈ l, 0 ≤ x ∧ x ≤ 255) (hk : 0 ≤ k ∧ k ≤ 255) (hn : -9223372036854775808 ≤ n ∧ n ≤ 9223372036854775807) (hq : k % 4 = 3) (h : n < 0) :
    Calls Try.prog 33 #[.pointer (some ⟨p, 0, none⟩), .slice a l.length cap, .agg #[.int .u8 k, .int .i64 n, .slice xa xn xc]] w (ReadsPost p S B l w) := by
  have hsm := hr.small
  have hp0 : p < w.heap.size := by obtain ⟨_, _, h, _, _⟩ := hr.ex; exact World.block_lt_of_cell? w _ h
  have hle := hs.le
  have hm := hs.most
  unfold maxLen at hm
  have hK0 := ((Kept.refl [p] w)).alloc (.cells #[.int .u8 k, .int .i64 n, .slice xa xn xc] 46)
  have hr0 := hr.keep (((Kept.refl [] w)).alloc (.cells #[.int .u8 k, .int .i64 n, .slice xa xn xc] 46)) (by simp) (by simp)
  have hs0 := hs.keep (((Kept.refl [] w)).alloc (.cells #[.int .u8 k, .int .i64 n, .slice xa xn xc] 46)) (fun _ _ => by simp)
  clear hr hs
  go_enter Try.func33, Try.ntmps33
  go_wp2_with fail
  refine (size_any k _ hk).mono ?_
  rintro e w1 ⟨rfl, hb1⟩
  have hz : sizeOfKind k = 0 := by simp [sizeOfKind, hq]
  rw [hz]
  have hbk : w1.cell? ⟨w.heap.size, 0, none⟩ = some (.int .u8 k) := cell_later hb1 (World.cell?_alloc_at _ _ _ _ rfl)
  have hbn : w1.cell? ⟨w.heap.size, 1, none⟩ = some (.int .i64 n) := cell_later hb1 (World.cell?_alloc_at _ _ _ _ rfl)
  have hK1 := hK0.trans (Kept.of_below hb1 (Nat.le_refl _) []) (by simp)
  have hr1 := hr0.keep (Kept.of_below hb1 (Nat.le_refl _) []) (by simp) (by simp)
  have hs1 := hs0.keep (Kept.of_below hb1 (Nat.le_refl _) []) (fun _ _ => by simp)
  clear hK0 hr0 hs0 hb1 hz
  go_wp2_with fail
  refine (take_neg p n _ h).mono ?_
  rintro e w2 ⟨v, rfl, hown, hb2⟩
  obtain ⟨a2, cap2, hv, hsl2, _⟩ := sl_of_own (l := []) hown
  rw [hv]
  clear hown hv
  have hK2 := hK1.trans (Kept.of_below hb2 (Nat.le_refl _) []) (by simp)
  have hr2 := hr1.keep (Kept.of_below hb2 (Nat.le_refl _) []) (by simp) (by simp)
  have hs2 := hs1.keep (Kept.of_below hb2 (Nat.le_refl _) []) (fun _ _ => by simp)
  clear hK1 hr1 hs1 hb2
  go_wp2_with fail
  go_ret2
  exact ⟨a, cap, rfl, hs2, hr2, ha, hK2⟩

set_option maxRecDepth 100000 in
set_option maxHeartbeats 1600000 in
theorem reads3_short (hr : Rd w p S l) (hs : SlA .u8 w a l.length cap l) (B : Nat) (hpB : B ≤ p) (ha : ∀ x, a = some x → 0 < cap → x.block < B) (hb : ∀ x ∈ l, 0 ≤ x ∧ x ≤ 255) (hk : 0 ≤ k ∧ k ≤ 255) (hn : -9223372036854775808 ≤ n ∧ n ≤ 9223372036854775807) (hq : k % 4 = 3) (h : (l.length : Int) < n) :
    Calls Try.prog 33 #[.pointer (some ⟨p, 0, none⟩), .slice a l.length cap, .agg #[.int .u8 k, .int .i64 n, .slice xa xn xc]] w (ReadsPost p S B l w) := by
  have hsm := hr.small
  have hp0 : p < w.heap.size := by obtain ⟨_, _, h, _, _⟩ := hr.ex; exact World.block_lt_of_cell? w _ h
  have hle := hs.le
  have hm := hs.most
  unfold maxLen at hm
  have hK0 := ((Kept.refl [p] w)).alloc (.cells #[.int .u8 k, .int .i64 n, .slice xa xn xc] 46)
  have hr0 := hr.keep (((Kept.refl [] w)).alloc (.cells #[.int .u8 k, .int .i64 n, .slice xa xn xc] 46)) (by simp) (by simp)
  have hs0 := hs.keep (((Kept.refl [] w)).alloc (.cells #[.int .u8 k, .int .i64 n, .slice xa xn xc] 46)) (fun _ _ => by simp)
  clear hr hs
  go_enter Try.func33, Try.ntmps33
  go_wp2_with fail
  refine (size_any k _ hk).mono ?_
  rintro e w1 ⟨rfl, hb1⟩
  have hz : sizeOfKind k = 0 := by simp [sizeOfKind, hq]
  rw [hz]
  have hbk : w1.cell? ⟨w.heap.size, 0, none⟩ = some (.int .u8 k) := cell_later hb1 (World.cell?_alloc_at _ _ _ _ rfl)
  have hbn : w1.cell? ⟨w.heap.size, 1, none⟩ = some (.int .i64 n) := cell_later hb1 (World.cell?_alloc_at _ _ _ _ rfl)
  have hK1 := hK0.trans (Kept.of_below hb1 (Nat.le_refl _) []) (by simp)
  have hr1 := hr0.keep (Kept.of_below hb1 (Nat.le_refl _) []) (by simp) (by simp)
  have hs1 := hs0.keep (Kept.of_below hb1 (Nat.le_refl _) []) (fun _ _ => by simp)
  clear hK0 hr0 hs0 hb1 hz
  have hn0 : ¬ n < 0 := by omega
  go_wp2_with fail
  refine (take_short p S l n _ hr1 h).mono ?_
  rintro e w2 ⟨v, rfl, hown, hb2⟩
  obtain ⟨a2, cap2, hv, hsl2, _⟩ := sl_of_own (l := []) hown
  rw [hv]
  clear hown hv
  have hK2 := hK1.trans (Kept.of_below hb2 (Nat.le_refl _) []) (by simp)
  have hr2 := hr1.keep (Kept.of_below hb2 (Nat.le_refl _) []) (by simp) (by simp)
  have hs2 := hs1.keep (Kept.of_below hb2 (Nat.le_refl _) []) (fun _ _ => by simp)
  clear hK1 hr1 hs1 hb2
  go_wp2_with fail
  refine (value_any a2 0 cap2 [] w2 hsl2 (by simp)).mono ?_
  rintro e w' ⟨rfl, rfl⟩
  have h00 : num [] = 0 := rfl
  rw [h00]
  go_wp2_with fail
  go_ret2
  exact ⟨a, cap, rfl, hs2, hr2, ha, hK2⟩

set_option maxRecDepth 100000 in
set_option maxHeartbeats 1600000 in
theorem reads3_end (m : Nat) (hr : Rd w p S l) (hs : SlA .u8 w a l.length cap l) (B : Nat) (hpB : B ≤ p) (ha : ∀ x, a = some x → 0 < cap → x.block < B) (hb : ∀ x ∈ l, 0 ≤ x ∧ x ≤ 255) (hk : 0 ≤ k ∧ k ≤ 255)  (hq : k % 4 = 3) (h : m ≤ l.length) (hc : cap = m) :
    Calls Try.prog 33 #[.pointer (some ⟨p, 0, none⟩), .slice a l.length cap, .agg #[.int .u8 k, .int .i64 m, .slice xa xn xc]] w (ReadsPost p S B (l.drop m) w) := by
  subst hc
  have hsm := hr.small
  have hp0 : p < w.heap.size := by obtain ⟨_, _, h, _, _⟩ := hr.ex; exact World.block_lt_of_cell? w _ h
  have hle := hs.le
  have hm := hs.most
  unfold maxLen at hm
  have hK0 := ((Kept.refl [p] w)).alloc (.cells #[.int .u8 k, .int .i64 cap, .slice xa xn xc] 46)
  have hr0 := hr.keep (((Kept.refl [] w)).alloc (.cells #[.int .u8 k, .int .i64 cap, .slice xa xn xc] 46)) (by simp) (by simp)
  have hs0 := hs.keep (((Kept.refl [] w)).alloc (.cells #[.int .u8 k, .int .i64 cap, .slice xa xn xc] 46)) (fun _ _ => by simp)
  clear hr hs
  go_enter Try.func33, Try.ntmps33
  go_wp2_with fail
  refine (size_any k _ hk).mono ?_
  rintro e w1 ⟨rfl, hb1⟩
  have hz : sizeOfKind k = 0 := by simp [sizeOfKind, hq]
  rw [hz]
  have hbk : w1.cell? ⟨w.heap.size, 0, none⟩ = some (.int .u8 k) := cell_later hb1 (World.cell?_alloc_at _ _ _ _ rfl)
  have hbn : w1.cell? ⟨w.heap.size, 1, none⟩ = some (.int .i64 cap) := cell_later hb1 (World.cell?_alloc_at _ _ _ _ rfl)
  have hK1 := hK0.trans (Kept.of_below hb1 (Nat.le_refl _) []) (by simp)
  have hr1 := hr0.keep (Kept.of_below hb1 (Nat.le_refl _) []) (by simp) (by simp)
  have hs1 := hs0.keep (Kept.of_below hb1 (Nat.le_refl _) []) (fun _ _ => by simp)
  clear hK0 hr0 hs0 hb1 hz
  have hm0 : ¬ (cap : Int) < 0 := by omega
  go_wp2_with fail
  refine (take_some p S l cap _ hr1 h).mono ?_
  rintro e w2 ⟨v, rfl, hown, hr2, hk2⟩
  have hK2 := hK1.trans hk2 (by simp)
  have hs2 := hs1.keepIf hk2 (fun x hx h => by have := ha x hx h; simp; omega)
  clear hK1 hr1 hs1 hk2 hbk hbn
  obtain ⟨a3, cap3, hv, hsl3, _⟩ := sl_of_own hown
  rw [hv]
  clear hown hv hb
  go_wp2_with fail
  go_quiet ((go_at_call 30; exact quiet_ret (same_true _ _ cap _ _ (l.take cap) _ (hsl3.drewN _) ((hs2.take cap h).drewN _))))
  go_wp2
  go_ret2
  have hz : (l.drop cap).length = 0 := by simp; omega
  have hz2 : l.length - cap = 0 := by omega
  have hse := (hs2.drop_end cap h rfl)
  rw [hz2] at hse
  refine ⟨a, 0, ?_, ?_, hr2.keep ((Kept.refl [] w2).drewN _) (by simp) (by simp), fun x hx h => by omega, hK2.drewN _⟩
  · rw [hz]; rfl
  · rw [hz]; exact (hse.drewN _)

set_option maxRecDepth 100000 in
set_option maxHeartbeats 1600000 in
theorem reads3_mid (m : Nat) (hr : Rd w p S l) (hs : SlA .u8 w a l.length cap l) (B : Nat) (hpB : B ≤ p) (ha : ∀ x, a = some x → 0 < cap → x.block < B) (hb : ∀ x ∈ l, 0 ≤ x ∧ x ≤ 255) (hk : 0 ≤ k ∧ k ≤ 255)  (hq : k % 4 = 3) (h : m ≤ l.length) (hc : cap ≠ m) :
    Calls Try.prog 33 #[.pointer (some ⟨p, 0, none⟩), .slice a l.length cap, .agg #[.int .u8 k, .int .i64 m, .slice xa xn xc]] w (ReadsPost p S B (l.drop m) w) := by
  obtain ⟨b, off, rfl, _⟩ := hs.cells (by have := hs.le; omega)
  have hsm := hr.small
  have hp0 : p < w.heap.size := by obtain ⟨_, _, h, _, _⟩ := hr.ex; exact World.block_lt_of_cell? w _ h
  have hle := hs.le
  have hm := hs.most
  unfold maxLen at hm
  have hK0 := ((Kept.refl [p] w)).alloc (.cells #[.int .u8 k, .int .i64 m, .slice xa xn xc] 46)
  have hr0 := hr.keep (((Kept.refl [] w)).alloc (.cells #[.int .u8 k, .int .i64 m, .slice xa xn xc] 46)) (by simp) (by simp)
  have hs0 := hs.keep (((Kept.refl [] w)).alloc (.cells #[.int .u8 k, .int .i64 m, .slice xa xn xc] 46)) (fun _ _ => by simp)
  clear hr hs
  go_enter Try.func33, Try.ntmps33
  go_wp2_with fail
  refine (size_any k _ hk).mono ?_
  rintro e w1 ⟨rfl, hb1⟩
  have hz : sizeOfKind k = 0 := by simp [sizeOfKind, hq]
  rw [hz]
  have hbk : w1.cell? ⟨w.heap.size, 0, none⟩ = some (.int .u8 k) := cell_later hb1 (World.cell?_alloc_at _ _ _ _ rfl)
  have hbn : w1.cell? ⟨w.heap.size, 1, none⟩ = some (.int .i64 m) := cell_later hb1 (World.cell?_alloc_at _ _ _ _ rfl)
  have hK1 := hK0.trans (Kept.of_below hb1 (Nat.le_refl _) []) (by simp)
  have hr1 := hr0.keep (Kept.of_below hb1 (Nat.le_refl _) []) (by simp) (by simp)
  have hs1 := hs0.keep (Kept.of_below hb1 (Nat.le_refl _) []) (fun _ _ => by simp)
  clear hK0 hr0 hs0 hb1 hz
  have hm0 : ¬ (m : Int) < 0 := by omega
  go_wp2_with fail
  refine (take_some p S l m _ hr1 h).mono ?_
  rintro e w2 ⟨v, rfl, hown, hr2, hk2⟩
  have hK2 := hK1.trans hk2 (by simp)
  have hs2 := hs1.keepIf hk2 (fun x hx h => by have := ha x hx h; simp; omega)
  clear hK1 hr1 hs1 hk2 hbk hbn
  obtain ⟨a3, cap3, hv, hsl3, _⟩ := sl_of_own hown
  rw [hv]
  clear hown hv hb
  go_wp2_with fail
  go_quiet ((go_at_call 30; exact quiet_ret (same_true _ _ m _ _ (l.take m) _ (hsl3.drewN _) ((hs2.take m h).drewN _))))
  go_wp2
  go_ret2
  have hz : l.length - m = (l.drop m).length := by simp
  refine ⟨some ⟨b, off + m, none⟩, cap - m, ?_, ?_, hr2.keep ((Kept.refl [] w2).drewN _) (by simp) (by simp), fun x hx h => by injection hx with hx; subst hx; exact ha ⟨b, off, none⟩ rfl (by omega), hK2.drewN _⟩
  · rw [← hz]; rfl
  · rw [← hz]; exact ((hs2.drop m h hc).drewN _)
end

/-- a thing that is read, whatever it is -/
theorem reads_any (p : Nat) (S : List Nat) (l : List Int) (a : Option Addr) (cap : Nat) (v : ItemV) (w : World) (hr : Rd w p S l) (hs : SlA .u8 w a l.length cap l) (B : Nat) (hpB : B ≤ p) (ha : ∀ x, a = some x → 0 < cap → x.block < B) (hb : ∀ x ∈ l, 0 ≤ x ∧ x ≤ 255) (hk : 0 ≤ v.kind ∧ v.kind ≤ 255) (hn : -9223372036854775808 ≤ v.n ∧ v.n ≤ 9223372036854775807) :
    Calls Try.prog 33 #[.pointer (some ⟨p, 0, none⟩), .slice a l.length cap, .agg #[.int .u8 v.kind, .int .i64 v.n, .slice v.a v.len v.cap]] w (ReadsPost p S B (left v l) w) := by
  have h4 : v.kind % 4 = 0 ∨ v.kind % 4 = 1 ∨ v.kind % 4 = 2 ∨ v.kind % 4 = 3 := by omega
  rcases h4 with h4 | h4 | h4 | h4
  · by_cases hl : l.length < 1
    · have e : left v l = l := by simp [left, sizeOfKind, h4]; omega
      rw [e]
      exact reads0_short p S l a cap v.kind v.n v.a v.len v.cap w hr hs B hpB ha hb hk hn h4 hl
    · have e : left v l = l.drop 1 := by simp [left, sizeOfKind, h4]; omega
      rw [e]
      by_cases hc : cap = 1
      · exact reads0_end p S l a cap v.kind v.n v.a v.len v.cap w hr hs B hpB ha hb hk hn h4 (by omega) hc
      · exact reads0_mid p S l a cap v.kind v.n v.a v.len v.cap w hr hs B hpB ha hb hk hn h4 (by omega) hc
  · by_cases hl : l.length < 2
    · have e : left v l = l := by simp [left, sizeOfKind, h4]; omega
      rw [e]
      exact reads1_short p S l a cap v.kind v.n v.a v.len v.cap w hr hs B hpB ha hb hk hn h4 hl
    · have e : left v l = l.drop 2 := by simp [left, sizeOfKind, h4]; omega
      rw [e]
      by_cases hc : cap = 2
      · exact reads1_end p S l a cap v.kind v.n v.a v.len v.cap w hr hs B hpB ha hb hk hn h4 (by omega) hc
      · exact reads1_mid p S l a cap v.kind v.n v.a v.len v.cap w hr hs B hpB ha hb hk hn h4 (by omega) hc
  · by_cases hl : l.length < 4
    · have e : left v l = l := by simp [left, sizeOfKind, h4]; omega
      rw [e]
      exact reads2_short p S l a cap v.kind v.n v.a v.len v.cap w hr hs B hpB ha hb hk hn h4 hl
    · have e : left v l = l.drop 4 := by simp [left, sizeOfKind, h4]; omega
      rw [e]
      by_cases hc : cap = 4
      · exact reads2_end p S l a cap v.kind v.n v.a v.len v.cap w hr hs B hpB ha hb hk hn h4 (by omega) hc
      · exact reads2_mid p S l a cap v.kind v.n v.a v.len v.cap w hr hs B hpB ha hb hk hn h4 (by omega) hc
  · by_cases h0 : v.n < 0
    · have e : left v l = l := by simp [left, h4, h0]
      rw [e]
      exact reads3_neg p S l a cap v.kind v.n v.a v.len v.cap w hr hs B hpB ha hb hk hn h4 h0
    · by_cases hl : (l.length : Int) < v.n
      · have e : left v l = l := by simp [left, h4, hl]
        rw [e]
        exact reads3_short p S l a cap v.kind v.n v.a v.len v.cap w hr hs B hpB ha hb hk hn h4 hl
      · have e : left v l = l.drop v.n.toNat := by simp [left, h4, h0, hl]
        rw [e]
        obtain ⟨m, hm⟩ := Int.eq_ofNat_of_zero_le (Int.not_lt.1 h0)
        rw [hm]
        simp only [Int.toNat_natCast]
        have hml : m ≤ l.length := by omega
        by_cases hc : cap = m
        · have := reads3_end p S l a cap v.kind v.a v.len v.cap w m hr hs B hpB ha hb hk h4 hml hc
          exact this
        · have := reads3_mid p S l a cap v.kind v.a v.len v.cap w m hr hs B hpB ha hb hk h4 hml hc
          exact this

/-! ### The items, opened -/
theorem cells5 : Try.prog.cellsOf 5 = 1 := by kernel_rfl
theorem cells3 : Try.prog.cellsOf 3 = 1 := by kernel_rfl
theorem cells44 : Try.prog.cellsOf 44 = 1 := by kernel_rfl
theorem cells46 : Try.prog.cellsOf 46 = 3 := by kernel_rfl

/-- what an item's datum is -/
def ItemD {H : Type} (d : DataW H) (v : ItemV) : Prop :=
  ∃ d1 d2 dB, d = .agg [d1, d2, dB] ∧ ((dB = .nil ∧ v.len = 0) ∨ ∃ el sp, dB = .slice el sp ∧ el.length = v.len)

theorem item_of {H : Type} {enc : TypeId × Value → H} {w : World} {base : Nat} (n : Nat) (cs : List Value) (d : DataW H) (p : List MemPlace)
    (h : DataW.trod enc Try.prog w base (fun _ => true) true n 46 cs = some (d, p)) : ∃ x : ItemV, ItemIs w cs x ∧ ItemD d x := by
  obtain ⟨xs, m, _, hx, hl, hxl, hf⟩ := DataW.trod_struct Try.underlying46 h
  rw [cells46] at hl
  have h0 := hf 0 _ rfl
  have h1 := hf 1 _ rfl
  have h2 := hf 2 _ rfl
  match cs, hl, xs, hxl with
  | [c0, c1, c2], _, [x0, x1, x2], _ =>
    simp [cells5, cells3, cells44] at h0 h1 h2
    obtain ⟨k, hk, hk2, hkw⟩ := DataW.trod_int Try.underlying5 h0
    obtain ⟨q, hq, hq2, hqw⟩ := DataW.trod_int Try.underlying3 h1
    injection hk with hk _
    injection hq with hq _
    have hin : d = .agg [x0.1, x1.1, x2.1] := by injection hx
    rcases open_ints Try.underlying44 Try.underlying5 cells5 h2 with ⟨hcs, hx2⟩ | ⟨a, len, cap, zs, hcs, _, hl, hm, hz, hx2, hcell, hwz⟩
    · injection hcs with hcs _
      subst hk hq hcs
      exact ⟨⟨k, q, none, 0, 0, []⟩, ⟨rfl, bounds_u8 hkw, bounds_i64 hqw, .inl ⟨rfl, rfl, rfl, rfl⟩⟩, _, _, _, hin, .inl ⟨by rw [hx2], rfl⟩⟩
    · injection hcs with hcs _
      subst hk hq hcs
      exact ⟨⟨k, q, some a, len, cap, zs⟩, ⟨rfl, bounds_u8 hkw, bounds_i64 hqw, .inr ⟨_, rfl, hl, hm, by simpa using hz, hcell, hwz⟩⟩, _, _, _, hin, .inr ⟨_, _, by rw [hx2], by simp [lits]; simp at hz; omega⟩⟩

theorem open_items {H : Type} {enc : TypeId × Value → H} {w : World} {base : Nat} {a : Option Addr} {len cap : Nat} {d : DataW H} {p : List MemPlace}
    (h : ∃ fuel, DataW.trod enc Try.prog w base (fun _ => true) true fuel 38 [.slice a len cap] = some (d, p)) :
    ∃ l : List ItemV, ElA (ItemIs w) 3 w a len cap l ∧ ((d = .nil ∧ l = []) ∨ ∃ elems rest, d = .slice elems rest ∧ elems.length = l.length ∧ ∀ i (hi : i < l.length) (hi' : i < elems.length), ItemD elems[i] l[i]) := by
  have := open_els (R := ItemIs w) (D := ItemD) Try.underlying38 (by rw [cells46]; omega) h item_of
  rwa [cells46] at this
end Go.Proofs.Ythkgdeehehjpmaa.oc
