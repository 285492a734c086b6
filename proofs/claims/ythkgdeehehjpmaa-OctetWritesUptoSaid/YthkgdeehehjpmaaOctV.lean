/-
  The walk of the law OctetWrites, where what it reads is of bulk at most 1048576.
-/
import Derived.Test.YthkgdeehehjpmaaOctQ
import Derived.Test.YthkgdeehehjpmaaRows
namespace Go.Proofs.Ythkgdeehehjpmaa.oc
open Go.RowKit aid mem opn
set_option linter.unusedVariables false

theorem Wr.lt {w : World} {p : Nat} {S : List Nat} {l : List Int} (h : Wr w p S l) : p < w.heap.size ∧ ∀ k ∈ S, k < w.heap.size := by
  refine ⟨World.block_lt_of_cell? w _ h.c1, fun k hk => ?_⟩
  rcases h.rest with ⟨_, _, rfl⟩ | ⟨sb, v, h0, hs, hf, hown, hne, hg, rfl⟩
  · cases hk
  · rcases List.mem_cons.1 hk with rfl | hk
    · exact World.block_lt_of_cell? w _ hs
    · exact (hown.lt k (Option.mem_toList.1 hk)).2

/-- a writer at p with lw, a row of one's own with la, apart from each other, both made since the world w -/
structure WS (w wr : World) (p : Nat) (lw la : List Int) (a : Option Addr) (cap : Nat) : Prop where
  ex : ∃ S, Wr wr p S lw ∧ (∀ k ∈ S, w.heap.size ≤ k) ∧ ∀ g, Value.ownBlock (.slice a la.length cap) = some g → g ≠ p ∧ g ∉ S
  p : w.heap.size ≤ p
  below : Below w.heap.size w wr
  own : wr.ownsRow w.heap.size 5 1 (.slice a la.length cap) la.length (ints .u8 la)

theorem WS.later {w wr w' : World} {p : Nat} {lw la : List Int} {a : Option Addr} {cap : Nat} (h : WS w wr p lw la a cap) (hb : Below wr.heap.size wr w') : WS w w' p lw la a cap := by
  obtain ⟨⟨S, h1, h2, h3⟩, hp, hbel, hown⟩ := h
  exact ⟨⟨S, h1.keep (Kept.of_below hb (Nat.le_refl _) []) (by simp) (by simp), h2, h3⟩, hp, hbel.trans (hb.mono hbel.size), (Kept.of_below hb (Nat.le_refl _) []).own (by simp) hown⟩

theorem WS.write {w wr w' : World} {p : Nat} {lw' la : List Int} {a : Option Addr} {cap : Nat} {S : List Nat} (hS : ∀ k ∈ S, w.heap.size ≤ k) (hg : ∀ g, Value.ownBlock (.slice a la.length cap) = some g → g ≠ p ∧ g ∉ S)
    (hp : w.heap.size ≤ p) (hbel : Below w.heap.size w wr) (hown : wr.ownsRow w.heap.size 5 1 (.slice a la.length cap) la.length (ints .u8 la))
    (h : ∃ S', Wr w' p S' lw' ∧ Kept (p :: S) wr w' ∧ ∀ k ∈ S', k ∈ S ∨ wr.heap.size ≤ k) : WS w w' p lw' la a cap := by
  obtain ⟨S', h1, h2, h3⟩ := h
  refine ⟨⟨S', h1, fun k hk => ?_, fun g hgg => ⟨(hg g hgg).1, fun hgS => ?_⟩⟩, hp, hbel.trans (h2.below ?_ hbel.size), h2.own ?_ hown⟩
  · rcases h3 k hk with h | h
    · exact hS k h
    · have := hbel.size; omega
  · rcases h3 g hgS with h | h
    · exact (hg g hgg).2 h
    · have := (hown.lt g hgg).2; omega
  · intro k hk
    rcases List.mem_cons.1 hk with rfl | hk
    · exact hp
    · exact hS k hk
  · intro k hk
    have := hg k hk
    simp [this.1, this.2]

theorem WS.append {w wr w' : World} {p : Nat} {lw la : List Int} {a a' : Option Addr} {cap cap' m : Nat} {lb : List Int} (h : WS w wr p lw la a cap) (hm : m = lb.length)
    (hown : w'.ownsRow w.heap.size 5 1 (.slice a' (la.length + m) cap') (la.length + m) (ints .u8 la ++ ints .u8 lb))
    (hgr : wr.grownBy w' (Value.ownBlock (.slice a la.length cap)))
    (hat : Value.ownBlock (.slice a' (la.length + m) cap') = Value.ownBlock (.slice a la.length cap) ∨ Value.ownBlock (.slice a' (la.length + m) cap') = some wr.heap.size) :
    WS w w' p lw (la ++ lb) a' cap' := by
  obtain ⟨⟨S, h1, h2, h3⟩, hp, hbel, ho⟩ := h
  have hlen : (la ++ lb).length = la.length + m := by simp [hm]
  have hk : Kept ((Value.ownBlock (.slice a la.length cap)).toList) wr w' := (Kept.refl _ _).grown hgr (fun k hk => .inl (by simp [hk]))
  have hlt := h1.lt
  refine ⟨⟨S, h1.keep hk ?_ ?_, h2, ?_⟩, hp, hbel.grown hgr hbel.size (fun k hk => (ho.lt k hk).1), by rw [hlen, ints_append]; exact hown⟩
  · intro hpp
    exact (h3 p (Option.mem_toList.1 hpp)).1 rfl
  · intro k hkS hkk
    exact (h3 k (Option.mem_toList.1 hkk)).2 hkS
  · intro g hg
    rw [hlen] at hg
    rcases hat with h | h
    · exact h3 g (by rw [← h]; exact hg)
    · rw [h] at hg
      injection hg with hg
      subst hg
      exact ⟨by omega, fun hS => by have := hlt.2 _ hS; omega⟩

/-! ### how much there is in all -/
theorem bulk_part {H : Type} : ∀ (els : List (DataW H)) (l : List ItemV), els.length = l.length → (∀ i (hi : i < l.length) (hi' : i < els.length), ItemD els[i] l[i]) → (l.map (·.len)).sum ≤ Rows.uptoBulkAll els := by
  intro els
  induction els with
  | nil => intro l hl _; simp at hl; obtain rfl := List.eq_nil_of_length_eq_zero hl.symm; simp
  | cons d r ih =>
    intro l hl h
    cases l with
    | nil => simp at hl
    | cons v l =>
      have h0 := h 0 (by simp) (by simp)
      have ht := ih l (by simpa using hl) (fun i hi hi' => by have := h (i + 1) (by simp; omega) (by simp; omega); simpa using this)
      simp only [List.map_cons, List.sum_cons, Rows.uptoBulkAll]
      have : v.len ≤ Rows.uptoBulk d := by
        obtain ⟨d1, d2, dB, hd, h⟩ := h0
        simp only [List.getElem_cons_zero] at hd h
        rw [hd]
        rcases h with ⟨_, h⟩ | ⟨el, sp, h, hl⟩
        · omega
        · rw [h]
          simp only [Rows.uptoBulk, Rows.uptoBulkAll]
          have : ∀ q : List (DataW H), q.length ≤ Rows.uptoBulkAll q := by
            intro q
            induction q with
            | nil => simp [Rows.uptoBulkAll]
            | cons x q ih =>
              have : 1 ≤ Rows.uptoBulk x := by cases x with
                | lit l => cases l <;> simp [Rows.uptoBulk]
                | _ => simp [Rows.uptoBulk]
              simp only [Rows.uptoBulkAll, List.length_cons]
              omega
          have := this el
          omega
      omega

theorem bulk_items {H : Type} {d : DataW H} {l : List ItemV} (h : (d = .nil ∧ l = []) ∨ ∃ elems rest, d = .slice elems rest ∧ elems.length = l.length ∧ ∀ i (hi : i < l.length) (hi' : i < elems.length), ItemD elems[i] l[i])
    (hk : Rows.uptoSmall H ([d] ++ []) = true) : (l.map (·.len)).sum ≤ 1048576 := by
  have hb := of_decide_eq_true hk
  simp only [List.append_nil, Rows.uptoBulkAll] at hb
  rcases h with ⟨_, rfl⟩ | ⟨els, rest, rfl, hl, hD⟩
  · simp
  · have := bulk_part els l hl hD
    simp only [Rows.uptoBulk] at hb
    omega

theorem sum_take (l : List ItemV) (k : Nat) : ((l.take k).map (·.len)).sum ≤ (l.map (·.len)).sum := by
  conv => rhs; rw [← List.take_append_drop k l]
  rw [List.map_append, List.sum_append]
  omega
theorem sum_succ (l : List ItemV) (k : Nat) (h : k < l.length) : ((l.take (k + 1)).map (·.len)).sum = ((l.take k).map (·.len)).sum + l[k].len := by
  rw [List.take_succ_eq_append_getElem h, List.map_append, List.sum_append]
  simp

theorem row_lt {k : IntKind} {w : World} {a : Option Addr} {len cap : Nat} {zs : List Int} (h : IsRow k w a len cap zs) : ∀ x, a = some x → 0 < cap → x.block < w.heap.size := by
  intro x hx h0
  rcases h with ⟨h, _⟩ | ⟨y, hy, h1, h2, h3, h4, h5⟩
  · rw [h] at hx; cases hx
  · rw [hy] at hx
    injection hx with hx
    subst hx
    have := World.block_lt_of_cell? w _ (h4 0 (by omega))
    simpa [Addr.add] using this
theorem wrap16 (n : Int) : IntKind.u16.wrap (n % 4294967296) = n % 65536 := by simp [IntKind.wrap, IntKind.bits, IntKind.signed]
theorem b1 (n : Int) : bytesTo (n % 256) 1 1 = [n % 256] := by simp [bytesTo, pw, List.range_succ]
theorem b2 (n : Int) : bytesTo (n % 65536) 2 2 = [n % 65536 / 256, n % 65536 % 256] := by simp [bytesTo, pw, List.range_succ]; omega
theorem b4 (n : Int) (h : 0 ≤ n ∧ n ≤ 4294967295) : bytesTo n 4 4 = [n / 16777216, n / 65536 % 256, n / 256 % 256, n % 256] := by simp [bytesTo, pw, List.range_succ]; omega

set_option maxRecDepth 100000 in
set_option maxHeartbeats 3200000 in
theorem walk_OctetWrites (a1 : Option Addr) (len1 cap1 : Nat) (items : List ItemV) (w : World) (w1 : ElA (ItemIs w) 3 w a1 len1 cap1 items) (hbulk : (items.map (·.len)).sum ≤ 1048576) :
    Calls Try.prog 9 #[.slice a1 len1 cap1] w fun e w' => e = .returned (.bool true) ∧ Below w.heap.size w w' := by
  obtain ⟨i0, hi, hz0, hz1, hz2⟩ := info_parts info5
  have hm1 := w1.most
  unfold maxLen at hm1
  have hle1 := w1.le
  have hit : Hid (0 < len1 → ∃ b off, a1 = some ⟨b, off, none⟩ ∧ b < w.heap.size ∧ ∀ i (hi : i < items.length), (w.cell? ⟨b, off + i * 3, none⟩ = some (.int .u8 items[i].kind) ∧ w.cell? ⟨b, off + (i * 3 + 1), none⟩ = some (.int .i64 items[i].n) ∧ w.cell? ⟨b, off + (i * 3 + 2), none⟩ = some (.slice items[i].a items[i].len items[i].cap)) ∧
      (0 ≤ items[i].kind ∧ items[i].kind ≤ 255) ∧ (-9223372036854775808 ≤ items[i].n ∧ items[i].n ≤ 9223372036854775807) ∧ IsRow .u8 w items[i].a items[i].len items[i].cap items[i].z) := fun h => ElA.item w1 h
  have hil := w1.len
  have HIL := Lib.hid hil
  have HBK := Lib.hid hbulk
  clear w1 hil hbulk
  go_enter Try.func9, Try.ntmps9
  go_wp2_with fail
  refine (known_any w).mono ?_
  rintro e w2 ⟨rfl, hb2⟩
  have hsz2 := hb2.size
  go_wp2_with fail
  obtain ⟨p, hp⟩ : ∃ p, w2.heap.size = p := ⟨_, rfl⟩
  have hws0 : WS w (w2.alloc (.cells #[.pointer none, .int .i64 0] 43)) p [] [] none 0 :=
    ⟨⟨[], by rw [← hp]; exact wr_new _ _, by simp, fun g hg => by cases hg⟩, by omega, hb2.trans ((Below.refl _ _).alloc hsz2 _), World.ownsRow_nil _ _ _ _⟩
  rw [hp]
  have HP := Lib.hid hp
  clear hp hb2
  go_loopw [4, 5] (fun v i wr => ∃ (k : Nat) (a : Option Addr) (cap : Nat) (l : List Int), k ≤ len1 ∧ k ≤ 200 ∧ i = .int .i64 k ∧ v = .slice a l.length cap ∧ WS w wr p l l a cap ∧ l.length ≤ 4 * k + ((items.take k).map (·.len)).sum) (fun _ i _ => len1 - (intOf i).toNat)
  case atStart => exact ⟨0, none, 0, [], Nat.zero_le _, Nat.zero_le _, rfl, rfl, hws0, by simp⟩
  case round =>
    clear hws0
    obtain ⟨k, a, cap, l, hk, hk200, rfl, rfl, hws, hll⟩ := hrel
    have hst := sum_take items k
    have hlb : l.length ≤ 1050000 := by have := HBK.out; omega
    by_cases hlt' : k < len1 ∧ k < 200
    · obtain ⟨hlt, hlt2⟩ := hlt'
      obtain ⟨b, off, rfl, hbw, hcs⟩ := hit.out (by omega)
      have hki : k < items.length := by have := HIL.out; omega
      obtain ⟨⟨c0, c1, c2⟩, hkb, hnb, hrow⟩ := hcs k hki
      have hss := sum_succ items k hki
      have hst2 := sum_take items (k + 1)
      have hll2 : ∀ m, m ≤ 4 ∨ m = items[k].len → (l.length + m) ≤ 4 * (k + 1) + ((items.take (k + 1)).map (·.len)).sum := by intro m hm; omega
      have HLL := Lib.hid hll2
      clear hll hll2 hss hcs hst hst2
      have hvl : items[k].len ≤ 1048576 := by
        have h1 := sum_succ items k hki
        have h2 := sum_take items (k + 1)
        have := HBK.out
        omega
      generalize items[k] = v at *
      have hbr := hws.below
      have r0 : wr.cell? ⟨b, off + k * 3, none⟩ = _ := (hbr.cell (p := ⟨b, off + k * 3, none⟩) hbw).trans c0
      have r1 : wr.cell? ⟨b, off + k * 3 + 1, none⟩ = _ := (hbr.cell (p := ⟨b, off + (k * 3 + 1), none⟩) hbw).trans c1
      have r2 : wr.cell? ⟨b, off + k * 3 + 2, none⟩ = _ := (hbr.cell (p := ⟨b, off + (k * 3 + 2), none⟩) hbw).trans c2
      have C2 := Lib.hid c2
      clear c0 c1 c2 hbr
      have h4 : v.kind % 4 = 0 ∨ v.kind % 4 = 1 ∨ v.kind % 4 = 2 ∨ v.kind % 4 = 3 := by omega
      obtain ⟨⟨S, hw, hS, hg⟩, hpB, hbel, hown⟩ := hws
      rcases h4 with h4 | h4 | h4 | h4
      · clear r2 C2
        go_wp2_with fail
        refine (one_any p S l (v.n % 256) wr hw (by omega)).mono ?_
        rintro e w4 ⟨rfl, h4w⟩
        have hws4 := WS.write hS hg hpB hbel hown h4w
        clear h4w hw hS hg hbel hown r0 r1
        go_wp2_with fail
        refine (number_ref (v.n % 256) 1 w4 (by omega) (by omega)).mono ?_
        rintro e w5 ⟨vv, rfl, hown5, hb5⟩
        rw [b1 v.n] at hown5
        obtain ⟨a5, cap5, hv, hsl5, _⟩ := sl_of_own hown5
        rw [hv]
        clear hown5 hv
        have hws5 := hws4.later hb5
        clear hws4 hb5
        have hsrc := hsl5.src Try.underlying44
        have hbs := hws5.below.size
        go_wp2_with (at_builtin; refine wpList_append_any _ rfl (.tmp 49) (.tmp 52) 44 44 rfl w.heap.size 5 i0 (.int .u8 0) 1 Try.underlying44 hi hz0 hz1 hz2 rfl (.slice a l.length cap) l.length (ints .u8 l) rfl hws5.own (.slice a5 1 cap5) rfl 1 (ints .u8 ([v.n % 256])) hsrc (by unfold maxLen; omega) (by omega) hbs ?_; intro a6 cap6 w6 hown6 hgr6 hat6)
        have hws6 := hws5.append (lb := [v.n % 256]) rfl hown6 hgr6 hat6
        clear hws5 hown6 hgr6 hat6 hsrc 
        have hle : (l ++ [v.n % 256]).length = l.length + 1 := by simp
        have HLE := Lib.hid hle
        clear hle
        obtain ⟨S6, hw6, _, _⟩ := hws6.ex
        go_wp2_with fail
        refine (len_any p S6 _ w6 hw6).mono ?_
        rintro e w' ⟨rfl, rfl⟩
        rw [HLE.out]
        clear hw6
        go_wp2_with fail
        go_roundw
        case rel => exact ⟨k + 1, a6, cap6, l ++ [v.n % 256], by omega, by omega, by go_num, by rw [HLE.out], hws6, by rw [HLE.out]; exact HLL.out 1 (by omega)⟩
        case measure => simp [intOf]; omega
      · clear r2 C2
        go_wp2_with fail
        rw [wrap16 v.n]
        refine (two_any p S l (v.n % 65536) wr hw (by omega) (by omega)).mono ?_
        rintro e w4 ⟨rfl, h4w⟩
        have hws4 := WS.write hS hg hpB hbel hown h4w
        clear h4w hw hS hg hbel hown r0 r1
        go_wp2_with fail
        refine (number_ref (v.n % 65536) 2 w4 (by omega) (by omega)).mono ?_
        rintro e w5 ⟨vv, rfl, hown5, hb5⟩
        rw [b2 v.n] at hown5
        obtain ⟨a5, cap5, hv, hsl5, _⟩ := sl_of_own hown5
        rw [hv]
        clear hown5 hv
        have hws5 := hws4.later hb5
        clear hws4 hb5
        have hsrc := hsl5.src Try.underlying44
        have hbs := hws5.below.size
        go_wp2_with (at_builtin; refine wpList_append_any _ rfl (.tmp 59) (.tmp 62) 44 44 rfl w.heap.size 5 i0 (.int .u8 0) 1 Try.underlying44 hi hz0 hz1 hz2 rfl (.slice a l.length cap) l.length (ints .u8 l) rfl hws5.own (.slice a5 2 cap5) rfl 2 (ints .u8 ([v.n % 65536 / 256, v.n % 65536 % 256])) hsrc (by unfold maxLen; omega) (by omega) hbs ?_; intro a6 cap6 w6 hown6 hgr6 hat6)
        have hws6 := hws5.append (lb := [v.n % 65536 / 256, v.n % 65536 % 256]) rfl hown6 hgr6 hat6
        clear hws5 hown6 hgr6 hat6 hsrc 
        have hle : (l ++ [v.n % 65536 / 256, v.n % 65536 % 256]).length = l.length + 2 := by simp
        have HLE := Lib.hid hle
        clear hle
        obtain ⟨S6, hw6, _, _⟩ := hws6.ex
        go_wp2_with fail
        refine (len_any p S6 _ w6 hw6).mono ?_
        rintro e w' ⟨rfl, rfl⟩
        rw [HLE.out]
        clear hw6
        go_wp2_with fail
        go_roundw
        case rel => exact ⟨k + 1, a6, cap6, l ++ [v.n % 65536 / 256, v.n % 65536 % 256], by omega, by omega, by go_num, by rw [HLE.out], hws6, by rw [HLE.out]; exact HLL.out 2 (by omega)⟩
        case measure => simp [intOf]; omega
      · clear r2 C2
        go_wp2_with fail
        refine (four_any p S l (v.n % 4294967296) wr hw (by omega) (by omega)).mono ?_
        rintro e w4 ⟨rfl, h4w⟩
        have hws4 := WS.write hS hg hpB hbel hown h4w
        clear h4w hw hS hg hbel hown r0 r1
        go_wp2_with fail
        refine (number_ref (v.n % 4294967296) 4 w4 (by omega) (by omega)).mono ?_
        rintro e w5 ⟨vv, rfl, hown5, hb5⟩
        rw [b4 (v.n % 4294967296) (by omega)] at hown5
        obtain ⟨a5, cap5, hv, hsl5, _⟩ := sl_of_own hown5
        rw [hv]
        clear hown5 hv
        have hws5 := hws4.later hb5
        clear hws4 hb5
        have hsrc := hsl5.src Try.underlying44
        have hbs := hws5.below.size
        go_wp2_with (at_builtin; refine wpList_append_any _ rfl (.tmp 68) (.tmp 70) 44 44 rfl w.heap.size 5 i0 (.int .u8 0) 1 Try.underlying44 hi hz0 hz1 hz2 rfl (.slice a l.length cap) l.length (ints .u8 l) rfl hws5.own (.slice a5 4 cap5) rfl 4 (ints .u8 ([v.n % 4294967296 / 16777216, v.n % 4294967296 / 65536 % 256, v.n % 4294967296 / 256 % 256, v.n % 4294967296 % 256])) hsrc (by unfold maxLen; omega) (by omega) hbs ?_; intro a6 cap6 w6 hown6 hgr6 hat6)
        have hws6 := hws5.append (lb := [v.n % 4294967296 / 16777216, v.n % 4294967296 / 65536 % 256, v.n % 4294967296 / 256 % 256, v.n % 4294967296 % 256]) rfl hown6 hgr6 hat6
        clear hws5 hown6 hgr6 hat6 hsrc 
        have hle : (l ++ [v.n % 4294967296 / 16777216, v.n % 4294967296 / 65536 % 256, v.n % 4294967296 / 256 % 256, v.n % 4294967296 % 256]).length = l.length + 4 := by simp
        have HLE := Lib.hid hle
        clear hle
        obtain ⟨S6, hw6, _, _⟩ := hws6.ex
        go_wp2_with fail
        refine (len_any p S6 _ w6 hw6).mono ?_
        rintro e w' ⟨rfl, rfl⟩
        rw [HLE.out]
        clear hw6
        go_wp2_with fail
        go_roundw
        case rel => exact ⟨k + 1, a6, cap6, l ++ [v.n % 4294967296 / 16777216, v.n % 4294967296 / 65536 % 256, v.n % 4294967296 / 256 % 256, v.n % 4294967296 % 256], by omega, by omega, by go_num, by rw [HLE.out], hws6, by rw [HLE.out]; exact HLL.out 4 (by omega)⟩
        case measure => simp [intOf]; omega
      · skip
        go_wp2_with fail
        refine (all_any p S l v.a v.len v.cap (v.z.take v.len) wr hw ((sl_of_row hrow).later hbel) (by intro x hx hc; have := row_lt hrow x hx hc; omega) (by omega)).mono ?_
        rintro e w4 ⟨rfl, h4w⟩
        have hws4 := WS.write hS hg hpB hbel hown h4w
        clear h4w hw hS hg hbel hown 
        have hsl5 := (sl_of_row hrow).later hws4.below
        have hsrc := hsl5.src Try.underlying44
        have hws5 := hws4
        have hbs := hws5.below.size
        have r2' : w4.cell? ⟨b, off + k * 3 + 2, none⟩ = _ := (hws4.below.cell (p := ⟨b, off + (k * 3 + 2), none⟩) hbw).trans C2.out
        clear r2 hws4
        go_wp2_with (at_builtin; refine wpList_append_any _ rfl (.tmp 37) (.tmp 42) 44 44 rfl w.heap.size 5 i0 (.int .u8 0) 1 Try.underlying44 hi hz0 hz1 hz2 rfl (.slice a l.length cap) l.length (ints .u8 l) rfl hws5.own (.slice v.a v.len v.cap) rfl v.len (ints .u8 (v.z.take v.len)) hsrc (by unfold maxLen; omega) (by omega) hbs ?_; intro a6 cap6 w6 hown6 hgr6 hat6)
        have hws6 := hws5.append (lb := v.z.take v.len) hsl5.len.symm hown6 hgr6 hat6
        clear hws5 hown6 hgr6 hat6 hsrc r2' r1
        have hle : (l ++ v.z.take v.len).length = l.length + v.len := by rw [List.length_append, hsl5.len]
        have HLE := Lib.hid hle
        clear hle
        obtain ⟨S6, hw6, _, _⟩ := hws6.ex
        go_wp2_with fail
        refine (len_any p S6 _ w6 hw6).mono ?_
        rintro e w' ⟨rfl, rfl⟩
        rw [HLE.out]
        clear hw6
        go_wp2_with fail
        go_roundw
        case rel => exact ⟨k + 1, a6, cap6, l ++ v.z.take v.len, by omega, by omega, by go_num, by rw [HLE.out], hws6, by rw [HLE.out]; exact HLL.out v.len (by omega)⟩
        case measure => simp [intOf]; omega
    · have hke : ¬ (k < len1 ∧ k < 200) := hlt'
      clear hlt'
      by_cases hx1 : k < len1
      all_goals
        obtain ⟨S, hw, _, _⟩ := hws.ex
        go_wp2_with fail
        refine (bytes_any p S l wr hw).mono ?_
        rintro e w3 ⟨v, rfl, hown3, hb3⟩
        obtain ⟨a3, cap3, hv, hsl3, _⟩ := sl_of_own hown3
        rw [hv]
        clear hown3 hv hw
        have hws3 := hws.later hb3
        clear hws hb3
        obtain ⟨_, _, hbel3, hown3⟩ := hws3
        obtain ⟨ax, cx, hvx, hslx, _⟩ := sl_of_own hown3
        injection hvx with hv1 _ hv2
        subst hv1 hv2
        go_wp2_with fail
        refine (same_true _ _ l.length _ _ l _ hsl3 hslx).mono ?_
        rintro e w6 ⟨rfl, nq, hw6⟩
        have hb6 : Below w.heap.size w w6 := by rw [hw6]; exact below_drewN hbel3 _
        clear hw6 hbel3 hown3 hslx hsl3
        go_wp2_with fail
        refine (known_any _).mono ?_
        rintro e w7 ⟨rfl, hb7⟩
        go_wp2_with fail
        go_ret
        exact ⟨rfl, hb6.trans (hb7.mono hb6.size)⟩
end Go.Proofs.Ythkgdeehehjpmaa.oc
