/-
  Contracts of package octet: a reader.
-/
import Derived.Test.YtdfenlagokndkaaOctX
namespace Go.Proofs.Ytdfenlagokndkaa.oc
open Go.RowKit aid mem
set_option linter.unusedVariables false

/-- at block p: a slice of the bytes that are ahead, at a block of S -/
structure Rd (w : World) (p : Nat) (S : List Nat) (l : List Int) : Prop where
  f0 : w.frozen? ⟨p, 0, none⟩ = false
  ex : ∃ a cap, w.cell? ⟨p, 0, none⟩ = some (.slice a l.length cap) ∧ SlA .u8 w a l.length cap l ∧ ∀ x, a = some x → x.block ∈ S
  ne : p ∉ S
  small : l.length ≤ 140737488355328

theorem Rd.keep {w w' : World} {p : Nat} {S : List Nat} {l : List Int} (h : Rd w p S l) {S' : List Nat} (hk : Kept S' w w') (hp : p ∉ S') (hd : ∀ x ∈ S, x ∉ S') : Rd w' p S l := by
  obtain ⟨a, cap, hc, hs, hx⟩ := h.ex
  exact ⟨(hk.frozen (p := ⟨p, 0, none⟩) hp hc).trans h.f0, ⟨a, cap, hk.cell (p := ⟨p, 0, none⟩) hp hc, hs.keep hk (fun x e => hd _ (hx x e)), hx⟩, h.ne, h.small⟩

/-- a new reader -/
def NewPost (l : List Int) (w : World) (e : Ending) (w' : World) : Prop :=
  ∃ p S, e = .returned (.pointer (some ⟨p, 0, none⟩)) ∧ Rd w' p S l ∧ w.heap.size ≤ p ∧ (∀ x ∈ S, w.heap.size ≤ x) ∧ Below w.heap.size w w'

theorem new_any (a : Option Addr) (n cap : Nat) (l : List Int) (w : World) (h : SlA .u8 w a n cap l) (hb : n ≤ 140737488355328) :
    Calls Try.prog 67 #[.slice a n cap] w (NewPost l w) := by
  go_enter Try.func67, Try.ntmps67
  go_wp2_with fail
  refine (fresh_any a n cap l w h hb).mono ?_
  rintro e w1 ⟨v, rfl, hown, hbel⟩
  have hll := h.len
  obtain ⟨a1, cap1, hv, hsl, hblk⟩ := sl_of_own hown
  have hlt := hown.lt
  rw [hv]
  rw [hv] at hblk hlt
  clear hown hv
  go_wp2_with fail
  go_ret
  have hsz := hbel.size
  subst hll
  refine ⟨w1.heap.size, (Value.ownBlock (.slice a1 l.length cap1)).toList, rfl, ⟨?_, ⟨a1, cap1, ?_, hsl.later ((Below.refl _ _).alloc (Nat.le_refl _) _), fun x hx => by simp [hblk x hx]⟩, ?_, hb⟩, hsz, ?_, hbel.trans ((Below.refl _ _).alloc hsz _)⟩
  · exact World.frozen?_alloc_at _ _ _ _ rfl
  · exact World.cell?_alloc_at _ _ _ _ rfl
  · intro hx
    have := hlt _ (Option.mem_toList.1 hx)
    omega
  · intro x hx
    exact (hlt x (Option.mem_toList.1 hx)).1

/-- what is past: the reader stands behind it -/
def NextPost (p : Nat) (S : List Nat) (l : List Int) (k : Nat) (w : World) (e : Ending) (w' : World) : Prop :=
  ∃ a cap, e = .returned (.tuple #[.slice a k cap, .int .i64 0]) ∧ SlA .u8 w' a k cap (l.take k) ∧ (∀ x, a = some x → x.block ∈ S) ∧ Rd w' p S (l.drop k) ∧ Kept [p] w w'

theorem next_nil (n : Int) (w : World) :
    Calls Try.prog 104 #[.pointer none, .int .i64 n] w fun e w' => e = .returned (.tuple #[.slice none 0 0, .int .i64 1]) ∧ w = w' := by
  go_enter Try.func104, Try.ntmps104
  go_wp2
  go_ret2
  exact ⟨rfl, rfl⟩
theorem next_neg (p : Nat) (n : Int) (w : World) (h : n < 0) :
    Calls Try.prog 104 #[.pointer (some ⟨p, 0, none⟩), .int .i64 n] w fun e w' => e = .returned (.tuple #[.slice none 0 0, .int .i64 2]) ∧ w = w' := by
  go_enter Try.func104, Try.ntmps104
  go_wp2
  go_ret2
  exact ⟨rfl, rfl⟩
theorem next_short (p : Nat) (S : List Nat) (l : List Int) (k : Int) (w : World) (hr : Rd w p S l) (h : (l.length : Int) < k) :
    Calls Try.prog 104 #[.pointer (some ⟨p, 0, none⟩), .int .i64 k] w fun e w' => e = .returned (.tuple #[.slice none 0 0, .int .i64 5]) ∧ w = w' := by
  obtain ⟨a, cap, h0, _, _⟩ := hr.ex
  have hk : ¬ k < 0 := by omega
  go_enter Try.func104, Try.ntmps104
  go_wp2
  go_ret2
  exact ⟨rfl, rfl⟩
theorem next_some (p : Nat) (S : List Nat) (l : List Int) (k : Nat) (w : World) (hr : Rd w p S l) (h : k ≤ l.length) :
    Calls Try.prog 104 #[.pointer (some ⟨p, 0, none⟩), .int .i64 k] w (NextPost p S l k w) := by
  obtain ⟨a, cap, h0, hs, hx⟩ := hr.ex
  have f0 := hr.f0
  have hle := hs.le
  have hm := hs.most
  have hne := hr.ne
  have hsm := hr.small
  unfold maxLen at hm
  have hK : ∀ u, Kept [p] w (w.setCell ⟨p, 0, none⟩ u) := fun u => (Kept.refl [p] w).setCell (.inl (by simp)) u
  have hd : ∀ x, a = some x → x.block ∉ [p] := fun x e h => hne (by rw [List.mem_singleton] at h; rw [← h]; exact hx x e)
  have hlen : (l.drop k).length = l.length - k := by simp
  by_cases hc : cap = k
  · subst hc
    have hfin : ∀ u, u = Value.slice a (l.length - cap) 0 → NextPost p S l cap w (.returned (.tuple #[.slice a cap cap, .int .i64 0])) (w.setCell ⟨p, 0, none⟩ u) := by
      intro u hu
      subst hu
      exact ⟨a, cap, rfl, (hs.take cap h).keep (hK _) hd, hx, ⟨by simpa using f0, ⟨a, 0, by rw [set_same h0, hlen], by rw [hlen]; exact (hs.drop_end cap h rfl).keep (hK _) hd, hx⟩, hne, by omega⟩, hK _⟩
    have HF := Lib.hid hfin
    have HK := Lib.hid hK
    have HD := Lib.hid hd
    clear hfin hK hd hlen hx
    go_enter Try.func104, Try.ntmps104
    go_wp2
    go_ret2
    exact HF.out _ (by simp; omega)
  · obtain ⟨b, off, rfl, _⟩ := hs.cells (by omega)
    have hfin : ∀ u, u = Value.slice (some ⟨b, off + k, none⟩) (l.length - k) (cap - k) → NextPost p S l k w (.returned (.tuple #[.slice (some ⟨b, off, none⟩) k cap, .int .i64 0])) (w.setCell ⟨p, 0, none⟩ u) := by
      intro u hu
      subst hu
      have hb : b ∈ S := hx ⟨b, off, none⟩ rfl
      have hd' : ∀ x, some (⟨b, off + k, none⟩ : Addr) = some x → x.block ∉ [p] := by
        rintro x e
        injection e with e
        subst e
        exact hd ⟨b, off, none⟩ rfl
      refine ⟨some ⟨b, off, none⟩, cap, rfl, (hs.take k h).keep (hK _) hd, hx, ⟨by simpa using f0, ⟨some ⟨b, off + k, none⟩, cap - k, by rw [set_same h0, hlen], by rw [hlen]; exact (hs.drop k h hc).keep (hK _) hd', ?_⟩, hne, by omega⟩, hK _⟩
      intro x e
      injection e with e
      subst e
      exact hb
    have HF := Lib.hid hfin
    have HK := Lib.hid hK
    have HD := Lib.hid hd
    clear hfin hK hd hlen hx
    go_enter Try.func104, Try.ntmps104
    go_wp2
    go_ret2
    exact HF.out _ (by simp)

/-- the number that bytes say -/
def num : List Int → Int := List.foldl (fun n b => (n * 256 + b) % 4294967296) 0

theorem or_join (L x : Int) (hL : 0 ≤ L) (h0 : 0 ≤ x) (h1 : x ≤ 255) : bits .or .u32 (L * 256 % 4294967296) x = (L * 256 + x) % 4294967296 := by
  rw [bits_join .u32 32 (by decide) (fun n h0 h1 => by rw [IntKind.wrap_u32]; omega) 8 _ _ (by omega) (by omega) (by omega) h0 (by omega) (by omega)]
  omega
theorem num_snoc (l : List Int) (b : Int) : num (l ++ [b]) = (num l * 256 + b) % 4294967296 := by simp [num]
theorem num_bd (l : List Int) : 0 ≤ num l ∧ num l ≤ 4294967295 := by
  rcases l.eq_nil_or_concat with rfl | ⟨l', b, rfl⟩
  · simp [num]
  · rw [List.concat_eq_append, num_snoc]; omega
theorem take_snoc {α : Type} (zs : List α) (d : α) (k : Nat) (h : k < zs.length) : zs.take (k + 1) = zs.take k ++ [zs.getD k d] := by
  rw [List.take_succ_eq_append_getElem h]
  simp [List.getD, h]

theorem number_any (b off n cap : Nat) (l : List Int) (w : World) (h : SlA .u8 w (some ⟨b, off, none⟩) n cap l) (hb : ∀ x ∈ l, 0 ≤ x ∧ x ≤ 255) (hn : 0 < n) :
    Calls Try.prog 105 #[.slice (some ⟨b, off, none⟩) n cap] w fun e w' => e = .returned (.int .u32 (num l)) ∧ w = w' := by
  have hm := h.most
  have hle := h.le
  have hll := h.len
  unfold maxLen at hm
  obtain ⟨b', off', hx, hc⟩ := h.cells (by omega)
  injection hx with hx
  injection hx with hx1 hx2
  subst hx1 hx2
  have hlg : n ≤ l.length := by omega
  have HC := Lib.hid hc
  have HB := Lib.hid hb
  have HL := Lib.hid hll
  clear hc hb hll
  go_enter Try.func105, Try.ntmps105
  go_wp2
  go_loop [3, 8] (fun v i => ∃ k : Nat, k ≤ n ∧ i = .int .i64 k ∧ v = .int .u32 (num (l.take k))) (fun _ i => n - (intOf i).toNat)
  case atStart => exact ⟨0, Nat.zero_le _, rfl, rfl⟩
  case round =>
    obtain ⟨k, hk, rfl, rfl⟩ := hrel
    have hnb := num_bd (l.take k)
    by_cases hlt : k < n
    · have hcell := HC.out k hlt
      have hx := getD_bd (fun x => 0 ≤ x ∧ x ≤ 255) (by omega) HB.out k
      have HS := num_snoc (l.take k) (l.getD k 0)
      rw [← take_snoc l 0 k (by omega)] at HS
      generalize l.getD k 0 = x at *
      generalize num (l.take k) = L at *
      have HT := Lib.hid HS
      clear HS
      have ho := or_join L x hnb.1 hx.1 hx.2
      go_wp2
      go_round
      case rel => exact ⟨k + 1, by omega, by go_num, by rw [HT.out]⟩
      case measure => simp [intOf]; omega
    · go_wp2
      go_ret
      exact ⟨ret_i (by rw [List.take_of_length_le (by have := HL.out; omega)]), rfl⟩

theorem number_nil (a : Option Addr) (cap : Nat) (w : World) :
    Calls Try.prog 105 #[.slice a 0 cap] w fun e w' => e = .returned (.int .u32 0) ∧ w = w' := by
  go_enter Try.func105, Try.ntmps105
  go_wp2
  go_loop [3, 8] (fun v i => i = .int .i64 0 ∧ v = .int .u32 0) (fun _ _ => 0)
  case atStart => exact ⟨rfl, rfl⟩
  case round =>
    obtain ⟨rfl, rfl⟩ := hrel
    go_wp2
    go_ret
    exact ⟨rfl, rfl⟩

/-- what number is, of any slice of bytes -/
theorem number_all (a : Option Addr) (n cap : Nat) (l : List Int) (w : World) (h : SlA .u8 w a n cap l) (hb : ∀ x ∈ l, 0 ≤ x ∧ x ≤ 255) :
    Calls Try.prog 105 #[.slice a n cap] w fun e w' => e = .returned (.int .u32 (num l)) ∧ w = w' := by
  have hl := h.len
  by_cases hn : n = 0
  · subst hn
    obtain rfl : l = [] := List.eq_nil_of_length_eq_zero hl
    exact number_nil a cap w
  · obtain ⟨b, off, rfl, _⟩ := h.cells (by have := h.le; omega)
    exact number_any b off n cap l w h hb (by omega)

/-! ### A reader's calls -/
def NumPost (k : IntKind) (m : Int → Int) (p : Nat) (S : List Nat) (l : List Int) (n : Nat) (w : World) (e : Ending) (w' : World) : Prop :=
  e = .returned (.tuple #[.int k (m (num (l.take n))), .int .i64 0]) ∧ Rd w' p S (l.drop n) ∧ Kept [p] w w'

theorem rone_nil (w : World) : Calls Try.prog 86 #[.pointer none] w fun e w' => e = .returned (.tuple #[.int .u8 0, .int .i64 1]) ∧ w = w' := by
  go_enter Try.func86, Try.ntmps86
  go_wp2_with fail
  refine (next_nil _ _).mono ?_
  rintro e w' ⟨rfl, rfl⟩
  go_wp2_with fail
  refine (number_nil _ _ _).mono ?_
  rintro e w' ⟨rfl, rfl⟩
  go_wp2_with fail
  go_ret2
  exact ⟨rfl, rfl⟩
theorem rone_short (p : Nat) (S : List Nat) (l : List Int) (w : World) (hr : Rd w p S l) (h : l.length < 1) :
    Calls Try.prog 86 #[.pointer (some ⟨p, 0, none⟩)] w fun e w' => e = .returned (.tuple #[.int .u8 0, .int .i64 5]) ∧ w = w' := by
  go_enter Try.func86, Try.ntmps86
  go_wp2_with fail
  refine (next_short p S l _ w hr (by omega)).mono ?_
  rintro e w' ⟨rfl, rfl⟩
  go_wp2_with fail
  refine (number_nil _ _ _).mono ?_
  rintro e w' ⟨rfl, rfl⟩
  go_wp2_with fail
  go_ret2
  exact ⟨rfl, rfl⟩
theorem rone_some (p : Nat) (S : List Nat) (l : List Int) (w : World) (hr : Rd w p S l) (hb : ∀ x ∈ l, 0 ≤ x ∧ x ≤ 255) (h : 1 ≤ l.length) :
    Calls Try.prog 86 #[.pointer (some ⟨p, 0, none⟩)] w (NumPost .u8 (fun x => x % 256) p S l 1 w) := by
  have hnb := num_bd (l.take 1)
  go_enter Try.func86, Try.ntmps86
  go_wp2_with fail
  refine (next_some p S l 1 w hr h).mono ?_
  rintro e w1 ⟨a, cap, rfl, hs, hx, hr', hk⟩
  go_wp2_with fail
  refine (number_all a 1 cap (l.take 1) w1 hs (fun x hx => hb x (List.mem_of_mem_take hx))).mono ?_
  rintro e w' ⟨rfl, rfl⟩
  go_wp2_with fail
  go_ret2
  exact ⟨rfl, hr', hk⟩

theorem rtwo_nil (w : World) : Calls Try.prog 88 #[.pointer none] w fun e w' => e = .returned (.tuple #[.int .u16 0, .int .i64 1]) ∧ w = w' := by
  go_enter Try.func88, Try.ntmps88
  go_wp2_with fail
  refine (next_nil _ _).mono ?_
  rintro e w' ⟨rfl, rfl⟩
  go_wp2_with fail
  refine (number_nil _ _ _).mono ?_
  rintro e w' ⟨rfl, rfl⟩
  go_wp2_with fail
  go_ret2
  exact ⟨rfl, rfl⟩
theorem rtwo_short (p : Nat) (S : List Nat) (l : List Int) (w : World) (hr : Rd w p S l) (h : l.length < 2) :
    Calls Try.prog 88 #[.pointer (some ⟨p, 0, none⟩)] w fun e w' => e = .returned (.tuple #[.int .u16 0, .int .i64 5]) ∧ w = w' := by
  go_enter Try.func88, Try.ntmps88
  go_wp2_with fail
  refine (next_short p S l _ w hr (by omega)).mono ?_
  rintro e w' ⟨rfl, rfl⟩
  go_wp2_with fail
  refine (number_nil _ _ _).mono ?_
  rintro e w' ⟨rfl, rfl⟩
  go_wp2_with fail
  go_ret2
  exact ⟨rfl, rfl⟩
theorem rtwo_some (p : Nat) (S : List Nat) (l : List Int) (w : World) (hr : Rd w p S l) (hb : ∀ x ∈ l, 0 ≤ x ∧ x ≤ 255) (h : 2 ≤ l.length) :
    Calls Try.prog 88 #[.pointer (some ⟨p, 0, none⟩)] w (NumPost .u16 (fun x => x % 65536) p S l 2 w) := by
  have hnb := num_bd (l.take 2)
  go_enter Try.func88, Try.ntmps88
  go_wp2_with fail
  refine (next_some p S l 2 w hr h).mono ?_
  rintro e w1 ⟨a, cap, rfl, hs, hx, hr', hk⟩
  go_wp2_with fail
  refine (number_all a 2 cap (l.take 2) w1 hs (fun x hx => hb x (List.mem_of_mem_take hx))).mono ?_
  rintro e w' ⟨rfl, rfl⟩
  go_wp2_with fail
  go_ret2
  exact ⟨rfl, hr', hk⟩

theorem rfour_nil (w : World) : Calls Try.prog 89 #[.pointer none] w fun e w' => e = .returned (.tuple #[.int .u32 0, .int .i64 1]) ∧ w = w' := by
  go_enter Try.func89, Try.ntmps89
  go_wp2_with fail
  refine (next_nil _ _).mono ?_
  rintro e w' ⟨rfl, rfl⟩
  go_wp2_with fail
  refine (number_nil _ _ _).mono ?_
  rintro e w' ⟨rfl, rfl⟩
  go_wp2_with fail
  go_ret2
  exact ⟨rfl, rfl⟩
theorem rfour_short (p : Nat) (S : List Nat) (l : List Int) (w : World) (hr : Rd w p S l) (h : l.length < 4) :
    Calls Try.prog 89 #[.pointer (some ⟨p, 0, none⟩)] w fun e w' => e = .returned (.tuple #[.int .u32 0, .int .i64 5]) ∧ w = w' := by
  go_enter Try.func89, Try.ntmps89
  go_wp2_with fail
  refine (next_short p S l _ w hr (by omega)).mono ?_
  rintro e w' ⟨rfl, rfl⟩
  go_wp2_with fail
  refine (number_nil _ _ _).mono ?_
  rintro e w' ⟨rfl, rfl⟩
  go_wp2_with fail
  go_ret2
  exact ⟨rfl, rfl⟩
theorem rfour_some (p : Nat) (S : List Nat) (l : List Int) (w : World) (hr : Rd w p S l) (hb : ∀ x ∈ l, 0 ≤ x ∧ x ≤ 255) (h : 4 ≤ l.length) :
    Calls Try.prog 89 #[.pointer (some ⟨p, 0, none⟩)] w (NumPost .u32 (fun x => x) p S l 4 w) := by
  have hnb := num_bd (l.take 4)
  go_enter Try.func89, Try.ntmps89
  go_wp2_with fail
  refine (next_some p S l 4 w hr h).mono ?_
  rintro e w1 ⟨a, cap, rfl, hs, hx, hr', hk⟩
  go_wp2_with fail
  refine (number_all a 4 cap (l.take 4) w1 hs (fun x hx => hb x (List.mem_of_mem_take hx))).mono ?_
  rintro e w' ⟨rfl, rfl⟩
  go_wp2_with fail
  go_ret2
  exact ⟨rfl, hr', hk⟩

/-- a row of bytes in new memory, and an error's number -/
def RowE (n : Nat) (l : List Int) (c : Int) (w : World) (e : Ending) (w' : World) : Prop :=
  ∃ v, e = .returned (.tuple #[v, .int .i64 c]) ∧ w'.ownsRow w.heap.size 5 1 v n (ints .u8 l) ∧ Below w.heap.size w w'

theorem sl_none (w : World) : SlA .u8 w none 0 0 [] := ⟨rfl, Nat.le_refl _, by simp [maxLen], fun _ => rfl, fun h => by omega⟩

theorem take_nil (n : Int) (w : World) : Calls Try.prog 91 #[.pointer none, .int .i64 n] w (RowE 0 [] 1 w) := by
  go_enter Try.func91, Try.ntmps91
  go_wp2_with fail
  refine (next_nil _ _).mono ?_
  rintro e w' ⟨rfl, rfl⟩
  go_wp2_with fail
  refine (fresh_any none 0 0 [] w (sl_none w) (by omega)).mono ?_
  rintro e w1 ⟨v, rfl, hown, hbel⟩
  go_wp2_with fail
  go_ret2
  exact ⟨v, rfl, hown, hbel⟩
theorem take_neg (p : Nat) (n : Int) (w : World) (h : n < 0) : Calls Try.prog 91 #[.pointer (some ⟨p, 0, none⟩), .int .i64 n] w (RowE 0 [] 2 w) := by
  go_enter Try.func91, Try.ntmps91
  go_wp2_with fail
  refine (next_neg p n w h).mono ?_
  rintro e w' ⟨rfl, rfl⟩
  go_wp2_with fail
  refine (fresh_any none 0 0 [] w (sl_none w) (by omega)).mono ?_
  rintro e w1 ⟨v, rfl, hown, hbel⟩
  go_wp2_with fail
  go_ret2
  exact ⟨v, rfl, hown, hbel⟩
theorem take_short (p : Nat) (S : List Nat) (l : List Int) (k : Int) (w : World) (hr : Rd w p S l) (h : (l.length : Int) < k) : Calls Try.prog 91 #[.pointer (some ⟨p, 0, none⟩), .int .i64 k] w (RowE 0 [] 5 w) := by
  go_enter Try.func91, Try.ntmps91
  go_wp2_with fail
  refine (next_short p S l k w hr h).mono ?_
  rintro e w' ⟨rfl, rfl⟩
  go_wp2_with fail
  refine (fresh_any none 0 0 [] w (sl_none w) (by omega)).mono ?_
  rintro e w1 ⟨v, rfl, hown, hbel⟩
  go_wp2_with fail
  go_ret2
  exact ⟨v, rfl, hown, hbel⟩
/-- what was taken, in new memory; the reader stands behind it -/
def TakePost (p : Nat) (S : List Nat) (l : List Int) (k : Nat) (w : World) (e : Ending) (w' : World) : Prop :=
  ∃ v, e = .returned (.tuple #[v, .int .i64 0]) ∧ w'.ownsRow w.heap.size 5 1 v k (ints .u8 (l.take k)) ∧ Rd w' p S (l.drop k) ∧ Kept [p] w w'
theorem take_some (p : Nat) (S : List Nat) (l : List Int) (k : Nat) (w : World) (hr : Rd w p S l) (h : k ≤ l.length) : Calls Try.prog 91 #[.pointer (some ⟨p, 0, none⟩), .int .i64 k] w (TakePost p S l k w) := by
  have hsm := hr.small
  obtain ⟨_, _, hp0, _, _⟩ := hr.ex
  have hp : p < w.heap.size := World.block_lt_of_cell? w _ hp0
  have hS : ∀ x ∈ S, True := fun _ _ => trivial
  clear hp0
  go_enter Try.func91, Try.ntmps91
  go_wp2_with fail
  refine (next_some p S l k w hr h).mono ?_
  rintro e w1 ⟨a, cap, rfl, hs, hx, hr', hk⟩
  go_wp2_with fail
  refine (fresh_any a k cap (l.take k) w1 hs (by omega)).mono ?_
  rintro e w2 ⟨v, rfl, hown, hbel⟩
  go_wp2_with fail
  go_ret2
  have hsz := hk.size
  refine ⟨v, rfl, own_base hown (fun g hg => by have := (hown.lt g hg).1; omega), hr'.keep (Kept.of_below hbel (Nat.le_refl _) []) (by simp) (by simp), hk.trans (Kept.of_below hbel (Nat.le_refl _) []) (by simp)⟩

theorem left_nil (w : World) : Calls Try.prog 106 #[.pointer none] w fun e w' => e = .returned (.int .i64 0) ∧ w = w' := by
  go_enter Try.func106, Try.ntmps106
  go_wp2
  go_ret
  exact ⟨rfl, rfl⟩
theorem left_any (p : Nat) (S : List Nat) (l : List Int) (w : World) (hr : Rd w p S l) : Calls Try.prog 106 #[.pointer (some ⟨p, 0, none⟩)] w fun e w' => e = .returned (.int .i64 l.length) ∧ w = w' := by
  obtain ⟨a, cap, h0, _, _⟩ := hr.ex
  go_enter Try.func106, Try.ntmps106
  go_wp2
  go_ret
  exact ⟨rfl, rfl⟩
theorem wlen_nil (w : World) : Calls Try.prog 82 #[.pointer none] w fun e w' => e = .returned (.int .i64 0) ∧ w = w' := by
  go_enter Try.func82, Try.ntmps82
  go_wp2
  go_ret
  exact ⟨rfl, rfl⟩
theorem wbytes_nil (w : World) : Calls Try.prog 74 #[.pointer none] w fun e w' => e = .returned (.slice none 0 0) ∧ w = w' := by
  go_enter Try.func74, Try.ntmps74
  go_wp2
  go_ret
  exact ⟨rfl, rfl⟩
end Go.Proofs.Ytdfenlagokndkaa.oc
