/-
  Alarms: operations that came in; AlarmPlays.
-/
import Derived.Test.YtnioaaahkhephaaAlmM
import Derived.Test.YtnioaaahkhephaaOpen
namespace Go.Proofs.Ytnioaaahkhephaa.al
open Go.RowKit Go.Maps aid mem opn Go.ChangeShapes Go.WideShapes Go.ChangeAt
attribute [local go_sem ↓] Go.wp_at_zero Go.wp_at_succ
set_option linter.unusedVariables false
set_option linter.unusedSimpArgs false

structure OpV where
  k : Int
  z : Int
  N : Int
instance : Inhabited OpV := ⟨⟨0, 0, 0⟩⟩
theorem cells_int : Try.prog.cellsOf 3 = 1 := by kernel_rfl
theorem cells_u8 : Try.prog.cellsOf 5 = 1 := by kernel_rfl
theorem cells_op : Try.prog.cellsOf 36 = 3 := by kernel_rfl
def OpOk (q : OpV) : Prop := (0 ≤ q.k ∧ q.k ≤ 255) ∧ (-9223372036854775808 ≤ q.z ∧ q.z ≤ 9223372036854775807) ∧ (-9223372036854775808 ≤ q.N ∧ q.N ≤ 9223372036854775807)
def OpIs (cs : List Value) (q : OpV) : Prop := cs = [.int .u8 q.k, .int .i64 q.z, .int .i64 q.N] ∧ OpOk q
/-- the operations lie where the slice leads -/
structure OpA (w : World) (a : Option Addr) (n cap : Nat) (l : List OpV) : Prop where
  len : l.length = n
  le : n ≤ cap
  most : cap ≤ maxLen
  cells : 0 < n → ∃ b off, a = some ⟨b, off, none⟩ ∧ ∀ i, i < n → w.cell? ⟨b, off + i * 3, none⟩ = some (.int .u8 (l.getD i default).k) ∧ w.cell? ⟨b, off + i * 3 + 1, none⟩ = some (.int .i64 (l.getD i default).z) ∧ w.cell? ⟨b, off + i * 3 + 2, none⟩ = some (.int .i64 (l.getD i default).N) ∧ OpOk (l.getD i default)
section
variable {H : Type} {enc : TypeId × Value → H} {w : World} {base : Nat}
set_option maxRecDepth 100000 in
theorem op_of (n : Nat) (cs : List Value) (d : DataW H) (p : List MemPlace)
    (h : DataW.trod enc Try.prog w base (fun _ => true) true n 36 cs = some (d, p)) : ∃ q : OpV, OpIs cs q ∧ True := by
  obtain ⟨xs, m, _, hx, hl, hxl, hf⟩ := DataW.trod_struct Try.underlying36 h
  rw [cells_op] at hl
  have h0 := hf 0 _ rfl
  have h1 := hf 1 _ rfl
  have h2 := hf 2 _ rfl
  match cs, hl, xs, hxl with
  | [c0, c1, c2], _, [x0, x1, x2], _ =>
    simp [cells_int, cells_u8] at h0 h1 h2
    obtain ⟨k, hk, hk2, hkw⟩ := DataW.trod_int Try.underlying5 h0
    obtain ⟨q, hq, hq2, hqw⟩ := DataW.trod_int Try.underlying3 h1
    obtain ⟨r, hr, hr2, hrw⟩ := DataW.trod_int Try.underlying3 h2
    injection hk with hk _
    injection hq with hq _
    injection hr with hr _
    subst hk hq hr
    exact ⟨⟨k, q, r⟩, ⟨rfl, bounds_u8 hkw, bounds_i64 hqw, bounds_i64 hrw⟩, trivial⟩
theorem opa_of_els {a : Option Addr} {len cap : Nat} {l : List OpV} (h : ElA OpIs 3 w a len cap l) : OpA w a len cap l := by
  refine ⟨h.len, h.le, h.most, fun h0 => ?_⟩
  obtain ⟨b, off, ha, hc⟩ := h.cells h0
  refine ⟨b, off, ha, fun i hi => ?_⟩
  have hil : i < l.length := by rw [h.len]; exact hi
  obtain ⟨cs, hR, _, hj⟩ := hc i hil
  have hg : l.getD i default = l[i] := by simp [List.getD, hil]
  obtain ⟨rfl, hok⟩ := hR
  rw [hg]
  have h0 := hj 0 (by omega)
  have h1 := hj 1 (by omega)
  have h2 := hj 2 (by omega)
  exact ⟨by simpa using h0, by simpa [Nat.add_assoc] using h1, by simpa [Nat.add_assoc] using h2, hok⟩
theorem open_ops {a : Option Addr} {len cap : Nat} {d : DataW H} {p : List MemPlace}
    (h : ∃ fuel, DataW.trod enc Try.prog w base (fun _ => true) true fuel 22 [.slice a len cap] = some (d, p)) :
    ∃ l : List OpV, OpA w a len cap l ∧ True := by
  obtain ⟨l, hl, _⟩ := open_els (R := OpIs) (D := fun _ _ => True) Try.underlying22 (by rw [cells_op]; omega) h op_of
  rw [cells_op] at hl
  exact ⟨l, opa_of_els hl, trivial⟩
end
/-- a clock and the reference's in a box -/
structure PL (w0 : World) (C : Nat) (now : Int) (L : List Int) (S : List Nat) (X : Nat) (n : Nat) (a : Option Addr) (cap : Nat) (W : World) : Prop where
  oc : OC C now L S W
  own : ∀ b ∈ S, w0.heap.size ≤ b
  len : L.length = n
  box : W.heap[X]? = some (rcO now a n cap)
  xs : X ∉ S
  xge : w0.heap.size ≤ X
  sl : SlA .i64 W a n cap L
  far : ∀ x, a = some x → x.block ∉ S ∧ x.block ≠ X
  below : Below w0.heap.size w0 W
section
variable {w0 W Y : World} {C : Nat} {now : Int} {L : List Int} {S : List Nat} {X n : Nat} {a : Option Addr} {cap : Nat}
theorem PL.later (h : PL w0 C now L S X n a cap W) (hb : Below W.heap.size W Y) : PL w0 C now L S X n a cap Y :=
  ⟨h.oc.later hb, h.own, h.len, (hb.block _ (lt_of_block h.box)).trans h.box, h.xs, h.xge, h.sl.later hb, h.far, h.below.trans (hb.mono h.below.size)⟩
theorem PL.c0 (h : PL w0 C now L S X n a cap W) : W.cell? ⟨X, 0, none⟩ = some (.int .i64 now) := cofr h.box 0 _ rfl
theorem PL.c1 (h : PL w0 C now L S X n a cap W) : W.cell? ⟨X, 1, none⟩ = some (.slice a n cap) := cofr h.box 1 _ rfl
theorem PL.oth (h : PL w0 C now L S X n a cap W) {p : Nat} (hp : X ≠ p) (u v : Value) : ((W.setCell ⟨p, 0, none⟩ u).setCell ⟨p, 1, none⟩ v).cell? ⟨X, 0, none⟩ = some (.int .i64 now) ∧ ((W.setCell ⟨p, 0, none⟩ u).setCell ⟨p, 1, none⟩ v).cell? ⟨X, 1, none⟩ = some (.slice a n cap) := by
  have kk : Kept [p] W ((W.setCell ⟨p, 0, none⟩ u).setCell ⟨p, 1, none⟩ v) := ((Kept.refl [p] W).setCell (.inl (by simp)) _).setCell (.inl (by simp)) _
  have e1 := kk.heap (by simpa using hp) h.box
  exact ⟨cofr e1 0 _ rfl, cofr e1 1 _ rfl⟩
theorem PL.lt (h : PL w0 C now L S X n a cap W) : ∀ x, a = some x → x.block < W.heap.size := sla_lt h.sl (by have := h.oc.vd.len; have := h.len; omega)
/-- a clone stands beside it -/
structure PC (w0 : World) (C : Nat) (now : Int) (L : List Int) (S : List Nat) (X : Nat) (n : Nat) (a : Option Addr) (cap : Nat) (D : Nat) (T : List Nat) (Z : Nat) (W : World) : Prop where
  p : PL w0 C now L S X n a cap W
  dc : OC D now L T W
  td : ∀ b ∈ T, b ∉ S ∧ b ≠ X ∧ w0.heap.size ≤ b
  zb : W.heap[Z]? = some (rcO now a n cap)
  zs : Z ∉ S ∧ Z ≠ X ∧ Z ∉ T ∧ w0.heap.size ≤ Z
theorem PC.later {D Z : Nat} {T : List Nat} (h : PC w0 C now L S X n a cap D T Z W) (hb : Below W.heap.size W Y) : PC w0 C now L S X n a cap D T Z Y :=
  ⟨h.p.later hb, h.dc.later hb, h.td, (hb.block _ (lt_of_block h.zb)).trans h.zb, h.zs⟩
/-- the clone is told, its box made: in either order -/
theorem PC.make {D Z : Nat} {T : List Nat} {W2 : World} (h : PL w0 C now L S X n a cap W) (hb : Below W.heap.size W W2) (hd : OC D now L T W2) (ht : ∀ b ∈ T, W.heap.size ≤ b) (hz : W2.heap[Z]? = some (rcO now a n cap)) (hzg : W.heap.size ≤ Z) (hzt : Z ∉ T) :
    PC w0 C now L S X n a cap D T Z W2 := by
  have hx := lt_of_block h.box
  have hs := h.oc.lt
  have := h.below.size
  refine ⟨h.later hb, hd, fun b hb' => ⟨fun m => ?_, ?_, ?_⟩, hz, fun m => ?_, ?_, hzt, by omega⟩
  · have := hs b m; have := ht b hb'; omega
  · have := ht b hb'; omega
  · have := ht b hb'; omega
  · have := hs Z m; omega
  · omega
theorem pcA {D : Nat} {T : List Nat} {w4 : World} (h : PL w0 C now L S X n a cap W) (b4 : Below W.heap.size W w4) (ho : OC D now L T w4) (ht : ∀ b ∈ T, W.heap.size ≤ b) :
    Hid (∃ T, PC w0 C now L S X n a cap D T w4.heap.size (w4.alloc (rcO now a n cap))) :=
  Lib.hid ⟨T, PC.make h (b4.trans ((bal _).mono b4.size)) (ho.later (bal _)) ht (heap_alloc_new _ _) b4.size (fun q => by have := ho.lt _ q; omega)⟩
theorem pcB {D : Nat} {T : List Nat} {w4 : World} {o : Obj} (h : PL w0 C now L S X n a cap W) (b4 : Below (W.alloc o).heap.size (W.alloc o) w4) (ho : OC D now L T w4) (ht : ∀ b ∈ T, (W.alloc o).heap.size ≤ b) {u : Int} {v : Option Addr} {z c : Nat} (hy : w4.heap[W.heap.size]? = some (rcO u v z c)) :
    Hid (∃ T, PC w0 C now L S X n a cap D T W.heap.size ((w4.setCell ⟨W.heap.size, 0, none⟩ (.int .i64 now)).setCell ⟨W.heap.size, 1, none⟩ (.slice a n cap))) := by
  have hz : (W.alloc o).heap.size = W.heap.size + 1 := by simp
  have b5 : Below W.heap.size W w4 := (bal o).trans (b4.mono (by omega))
  obtain ⟨r1, r2, k⟩ := res_put (w := W) hy (Nat.le_refl _) b5 now a n cap
  exact Lib.hid ⟨T, PC.make h r2 (ho.keep k (fun b hb => by have := ht b hb; simp; omega)) (fun b hb => by have := ht b hb; omega) r1 (Nat.le_refl _) (fun q => by have := ht _ q; omega)⟩
/-- behind does -/
structure PX (w0 : World) (C : Nat) (now2 : Int) (L' : List Int) (S' : List Nat) (X : Nat) (n : Nat) (a2 : Option Addr) (cap2 : Nat) (Y : Nat) (now : Int) (L : List Int) (a : Option Addr) (cap : Nat) (D : Nat) (T : List Nat) (Z : Nat) (W : World) : Prop where
  oc : OC C now2 L' S' W
  own : ∀ b ∈ S', w0.heap.size ≤ b
  len : L'.length = n
  xb : W.heap[X]? = some (rcO now a n cap)
  xs : X ∉ S'
  xge : w0.heap.size ≤ X
  yb : W.heap[Y]? = some (rcO now2 a2 n cap2)
  sl2 : SlA .i64 W a2 n cap2 L'
  far2 : ∀ x, a2 = some x → x.block ∉ S' ∧ x.block ≠ X
  dc : OC D now L T W
  td : ∀ b ∈ T, b ≠ X
  zb : W.heap[Z]? = some (rcO now a n cap)
  zx : Z ≠ X
  sl : SlA .i64 W a n cap L
  far : ∀ x, a = some x → x.block ≠ X
  below : Below w0.heap.size w0 W
theorem PX.of {D Z Y : Nat} {T : List Nat} {now2 : Int} {L' : List Int} {a2 : Option Addr} {cap2 : Nat} {W2 W3 : World} (h : PC w0 C now L S X n a cap D T Z W) (hl : L'.length = n) (hs2 : SlA .i64 W2 a2 n cap2 L') (hog : OGA C now2 L' S a2 W W2) (horg : ∀ x, a2 = some x → a = some x ∨ W.heap.size ≤ x.block)
    (hk : Kept [Y] W2 W3) (hY : W3.heap[Y]? = some (rcO now2 a2 n cap2)) (hy : W2.heap.size ≤ Y ∨ (Y < W.heap.size ∧ Y ∉ S ∧ Y ∉ T ∧ Y ≠ Z ∧ Y ≠ X ∧ (∀ x, a = some x → x.block ≠ Y) ∧ w0.heap.size ≤ Y)) :
    ∃ S', PX w0 C now2 L' S' X n a2 cap2 Y now L a cap D T Z W3 := by
  obtain ⟨S', o, k1, n1, f1⟩ := hog
  have hn1 : 1 ≤ n := by have := h.p.oc.vd.len; have := h.p.len; omega
  have hxl := lt_of_block h.p.box
  have hzl := lt_of_block h.zb
  have hal := h.p.lt
  have hs := k1.size
  have h2l := sla_lt hs2 hn1
  have hb0 := h.p.below.size
  have xb2 := k1.heap h.p.xs h.p.box
  have zb2 := k1.heap h.zs.1 h.zb
  have dc2 : OC D now L T W2 := h.dc.keep k1 (fun b hb => (h.td b hb).1)
  have sl2 : SlA .i64 W2 a n cap L := h.p.sl.keep k1 (fun x hx => (h.p.far x hx).1)
  have hbel : Below w0.heap.size w0 W2 := h.p.below.trans (k1.below (B := w0.heap.size) (fun b hb => h.p.own b hb) hb0)
  have yx : X ≠ Y := by rcases hy with q | q; omega; exact q.2.2.2.2.1.symm
  have yz : Z ≠ Y := by rcases hy with q | q; omega; exact q.2.2.2.1.symm
  have yge : w0.heap.size ≤ Y := by rcases hy with q | q; omega; exact q.2.2.2.2.2.2
  refine ⟨S', o.keep hk (fun b hb => ?_), fun b hb => ?_, hl, hk.heap (by simpa using yx) xb2, fun q => ?_, h.p.xge, hY, hs2.keep hk (fun x hx => ?_), fun x hx => ⟨f1 x hx, ?_⟩, dc2.keep hk (fun b hb => ?_), fun b hb => (h.td b hb).2.1, hk.heap (by simpa using yz) zb2, h.zs.2.1, sl2.keep hk (fun x hx => ?_), fun x hx => (h.p.far x hx).2, hbel.trans (hk.below (B := w0.heap.size) (fun b hb => by simp at hb; omega) hbel.size)⟩
  · have := o.lt b hb
    rcases hy with q | q
    · simp; omega
    · rcases n1 b hb with r | r
      · simp; intro e; subst e; exact q.2.1 r
      · simp; omega
  · rcases n1 b hb with r | r
    · exact h.p.own b r
    · omega
  · rcases n1 X q with r | r
    · exact h.p.xs r
    · omega
  · have := h2l x hx
    rcases hy with q | q
    · simp; omega
    · rcases horg x hx with r | r
      · have := q.2.2.2.2.2.1 x r; simpa using this
      · simp; omega
  · rcases horg x hx with r | r
    · exact (h.p.far x r).2
    · omega
  · rcases hy with q | q
    · have := h.dc.lt b hb; simp; omega
    · simp; intro e; subst e; exact q.2.2.1 hb
  · rcases hy with q | q
    · have := hal x hx; simp; omega
    · have := q.2.2.2.2.2.1 x hx; simpa using this
/-- the new one is stored -/
theorem PX.put {D Z Y : Nat} {T S' : List Nat} {now2 : Int} {L' : List Int} {a2 : Option Addr} {cap2 : Nat} (h : PX w0 C now2 L' S' X n a2 cap2 Y now L a cap D T Z W) :
    PL w0 C now2 L' S' X n a2 cap2 ((W.setCell ⟨X, 0, none⟩ (.int .i64 now2)).setCell ⟨X, 1, none⟩ (.slice a2 n cap2)) ∧ OC D now L T ((W.setCell ⟨X, 0, none⟩ (.int .i64 now2)).setCell ⟨X, 1, none⟩ (.slice a2 n cap2)) ∧
    ((W.setCell ⟨X, 0, none⟩ (.int .i64 now2)).setCell ⟨X, 1, none⟩ (.slice a2 n cap2)).heap[Z]? = some (rcO now a n cap) ∧ SlA .i64 ((W.setCell ⟨X, 0, none⟩ (.int .i64 now2)).setCell ⟨X, 1, none⟩ (.slice a2 n cap2)) a n cap L := by
  obtain ⟨r1, r2, k⟩ := res_put (w := w0) h.xb h.xge h.below now2 a2 n cap2
  exact ⟨⟨h.oc.keep k (fun b hb => by simp; intro e; subst e; exact h.xs hb), h.own, h.len, r1, h.xs, h.xge, h.sl2.keep k (fun x hx => by simpa using (h.far2 x hx).2), h.far2, r2⟩, h.dc.keep k (fun b hb => by simpa using h.td b hb), k.heap (by simpa using h.zx) h.zb, h.sl.keep k (fun x hx => by simpa using h.far x hx)⟩
theorem kset2 (W : World) (p : Nat) (u v : Value) : Kept [p] W ((W.setCell ⟨p, 0, none⟩ u).setCell ⟨p, 1, none⟩ v) := ((Kept.refl [p] W).setCell (.inl (by simp)) _).setCell (.inl (by simp)) _
theorem does_same {D Z : Nat} {T : List Nat} (hp : PC w0 C now L S X n a cap D T Z W) (k z N : Int) (hk : 0 ≤ k ∧ k ≤ 255) (hz : -9223372036854775808 ≤ z ∧ z ≤ 9223372036854775807) (hN : -9223372036854775808 ≤ N ∧ N ≤ 9223372036854775807) :
    Calls Try.prog 11 #[.pointer (some ⟨C, 0, none⟩), rc now a n cap, opV k z N] W fun e w' => ∃ now2 L' a2 cap2, e = .returned (.tuple #[rc now2 a2 n cap2, .bool true]) ∧ L'.length = n ∧ SlA .i64 w' a2 n cap2 L' ∧ OGA C now2 L' S a2 W w' ∧ ∀ x, a2 = some x → a = some x ∨ W.heap.size ≤ x.block := by
  refine (does_any hp.p.oc hp.p.sl hp.p.len (fun x hx => (hp.p.far x hx).1) hp.p.lt k z N hk hz hN).mono fun e w' h => ?_
  obtain ⟨a2, cap2, b, he, h1, h2, h3, h4⟩ := h
  rw [hp.p.len] at he h1
  rw [h4 rfl] at he
  exact ⟨_, _, a2, cap2, he, by rw [opL_len, hp.p.len], h1, h2, h3⟩
theorem PC.call {D Z : Nat} {T : List Nat} {now2 : Int} {L' : List Int} {a2 : Option Addr} {W4 : World} (h : PC w0 C now L S X n a cap D T Z W) (hog : OGA C now2 L' S a2 W W4) : Below w0.heap.size w0 W4 ∧ W4.cell? ⟨X, 0, none⟩ = some (.int .i64 now) ∧ W4.cell? ⟨X, 1, none⟩ = some (.slice a n cap) := by
  obtain ⟨S', o, k1, _⟩ := hog
  have xb2 := k1.heap h.p.xs h.p.box
  exact ⟨h.p.below.trans (k1.below (B := w0.heap.size) (fun b hb => h.p.own b hb) h.p.below.size), cofr xb2 0 _ rfl, cofr xb2 1 _ rfl⟩
theorem pxA {D Z : Nat} {T : List Nat} {now2 : Int} {L' : List Int} {a2 : Option Addr} {cap2 : Nat} {W2 : World} (h : PC w0 C now L S X n a cap D T Z W) (hl : L'.length = n) (hs2 : SlA .i64 W2 a2 n cap2 L') (hog : OGA C now2 L' S a2 W W2) (horg : ∀ x, a2 = some x → a = some x ∨ W.heap.size ≤ x.block) :
    Hid (∃ now2' L' S' a2' cap2', PX w0 C now2' L' S' X n a2' cap2' W2.heap.size now L a cap D T Z (W2.alloc (rcO now2 a2 n cap2))) := by
  obtain ⟨S', hx⟩ := PX.of h hl hs2 hog horg (W3 := W2.alloc (rcO now2 a2 n cap2)) (Y := W2.heap.size) (Kept.of_below (bal _) (Nat.le_refl _) _) (heap_alloc_new _ _) (.inl (Nat.le_refl _))
  exact Lib.hid ⟨now2, L', S', a2, cap2, hx⟩
theorem pxB {D Z : Nat} {T : List Nat} {now2 : Int} {L' : List Int} {a2 : Option Addr} {cap2 : Nat} {W2 : World} (h0 : PC w0 C now L S X n a cap D T Z W) (h : PC w0 C now L S X n a cap D T Z (W.alloc (rcO 0 none 0 0)).drew) (hl : L'.length = n) (hs2 : SlA .i64 W2 a2 n cap2 L') (hog : OGA C now2 L' S a2 (W.alloc (rcO 0 none 0 0)).drew W2) (horg : ∀ x, a2 = some x → a = some x ∨ (W.alloc (rcO 0 none 0 0)).drew.heap.size ≤ x.block) :
    W2.heap[W.heap.size]? = some (rcO 0 none 0 0) ∧ Hid (∃ now2' L' S' a2' cap2', PX w0 C now2' L' S' X n a2' cap2' W.heap.size now L a cap D T Z ((W2.setCell ⟨W.heap.size, 0, none⟩ (.int .i64 now2)).setCell ⟨W.heap.size, 1, none⟩ (.slice a2 n cap2))) := by
  have hns : W.heap.size ∉ S := fun q => by have := h0.p.oc.lt _ q; omega
  have hb : W2.heap[W.heap.size]? = some (rcO 0 none 0 0) := by
    obtain ⟨S', o, k1, _⟩ := hog
    exact k1.heap hns (heap_alloc_new W (rcO 0 none 0 0))
  have hb2 : Below W.heap.size W (W.alloc (rcO 0 none 0 0)).drew := (bal _).drew
  obtain ⟨r1, _, k⟩ := res_put (w := w0) hb h0.p.below.size (h.call hog).1 now2 a2 n cap2
  have hlx := lt_of_block h0.p.box
  have hlz := lt_of_block h0.zb
  have hal := h0.p.lt
  obtain ⟨S', hx⟩ := PX.of h hl hs2 hog horg (Y := W.heap.size) k r1 (.inr ⟨by show W.heap.size < (W.alloc (rcO 0 none 0 0)).heap.size; simp, hns, fun q => by have := h0.dc.lt _ q; omega, by omega, by omega, fun x hx => by have := hal x hx; omega, h0.p.below.size⟩)
  exact ⟨hb, Lib.hid ⟨now2, L', S', a2, cap2, hx⟩⟩
end
set_option maxRecDepth 100000 in
set_option maxHeartbeats 8000000 in
theorem walk_AlarmPlays (w : World) (nm : Int) (hnm : -9223372036854775808 ≤ nm ∧ nm ≤ 9223372036854775807) (a : Option Addr) (n cap : Nat) (ops : List OpV) (hops : OpA w a n cap ops) :
    Calls Try.prog 3 #[.int .i64 nm, .slice a n cap] w fun x w' => x = .returned (.bool true) ∧ Below w.heap.size w w' := by
  have hle := hops.le
  have hmost := hops.most
  unfold maxLen at hmost
  have HC := Lib.hid hops.cells
  clear hops
  by_cases hg : nm < 1 ∨ 64 < nm
  · have HG := Lib.hid hg
    have hd1 : (decide (nm < 1) || decide (64 < nm)) = true := by simpa using hg
    go_enter Try.func3, Try.ntmps3
    go_wp2_with fail
    refine (known_any w).mono ?_
    rintro e w1 ⟨rfl, b1⟩
    go_wp2_with fail
    refine (new_any w1 nm hnm).mono ?_
    intro e w2 hp
    rcases hp with ⟨_, rfl, rfl⟩ | ⟨hp, _⟩
    case inr => exact absurd HG.out hp
    rcases hg with hg | hg
    · go_wp2_with fail
      refine (known_any w1).mono ?_
      rintro e w3 ⟨rfl, b3⟩
      have HB := Lib.hid (b1.trans (b3.mono b1.size))
      clear b1 b3
      go_wp2_with fail
      go_ret
      exact ⟨rfl, HB.out⟩
    · have hg2 : decide (nm < 1) = false := decide_eq_false (by omega)
      go_wp2_with fail
      refine (known_any w1).mono ?_
      rintro e w3 ⟨rfl, b3⟩
      have HB := Lib.hid (b1.trans (b3.mono b1.size))
      clear b1 b3
      go_wp2_with fail
      go_ret
      exact ⟨rfl, HB.out⟩
  obtain ⟨m, rfl⟩ := Int.eq_ofNat_of_zero_le (show 0 ≤ nm by omega)
  have hm1 : 1 ≤ m := by omega
  have hm2 : m ≤ 64 := by omega
  have hg1 : decide ((m : Int) < 1) = false := decide_eq_false (by omega)
  have hg2 : decide (64 < (m : Int)) = false := decide_eq_false (by omega)
  go_enter Try.func3, Try.ntmps3
  go_wp2_with fail
  refine (known_any w).mono ?_
  rintro e w1 ⟨rfl, b1⟩
  go_wp2_with fail
  refine (oc_new w1 m hm1 hm2).mono ?_
  rintro e w2 ⟨C, S, rfl, ho, b2, hs2⟩
  have HO2 := Lib.hid ho
  have HB2 := Lib.hid (And.intro b1 (And.intro b2 hs2))
  clear ho b1 b2 hs2
  go_wp2_with fail
  refine (rnew_any w2 m (by omega)).mono ?_
  rintro e w3 ⟨a3, cap3, rfl, hs3, b3, hn3⟩
  rw [show (rep m).length = m by simp [rep]] at hs3 ⊢
  have HP : Hid (∀ x, a3 = some x → w2.heap.size ≤ x.block) := Lib.hid hn3
  have P0 : Hid (∃ now L S a' cap', PL w C now L S w3.heap.size m a' cap' (w3.alloc (rcO 0 a3 m cap3))) := Lib.hid (by
    obtain ⟨b1, b2, hs2⟩ := HB2.out
    have bb := bal (w := w3) (rcO 0 a3 m cap3)
    have h1 := b1.size
    have h2 := b2.size
    have h3 := b3.size
    exact ⟨0, rep m, S, a3, cap3, (HO2.out.later b3).later bb, fun b hb => by have := hs2 b hb; omega, by simp [rep], heap_alloc_new _ _, fun q => by have := HO2.out.lt _ q; omega, by omega, hs3.later bb, fun x hx => ⟨fun q => by have := HO2.out.lt _ q; have := HP.out x hx; omega, by have := sla_lt hs3 hm1 x hx; omega⟩, ((b1.trans (b2.mono b1.size)).trans (b3.mono (by omega))).trans (bb.mono (by omega))⟩)
  clear HB2 HO2 HP hs3 b3 hn3
  go_wp2_with fail
  generalize w3.heap.size = X at *
  go_loopw [8, 9, 10, 11, 12] (fun i _ _ _ _ wr => ∃ (k : Nat), i = .int .i64 k ∧ k ≤ n ∧ k ≤ 200 ∧ Hid (∃ now L S a' cap', PL w C now L S X m a' cap' wr)) (fun i _ _ _ _ _ => 200 - (intOf i).toNat)
  case atStart => exact ⟨0, rfl, by omega, by omega, P0⟩
  case round =>
    clear P0
    obtain ⟨k, rfl, hk, hk2, HP⟩ := hrel
    obtain ⟨now, L, S, a', cap', P⟩ := HP.out
    clear HP
    by_cases hlt : k < n ∧ k < 200
    · obtain ⟨h1, h2⟩ := hlt
      obtain ⟨B, off, rfl, hc⟩ := HC.out (by omega)
      obtain ⟨c0, c1, c2, hok⟩ := hc k h1
      have HC0 := Lib.hid (fun W (h : Below w.heap.size w W) => (show W.cell? ⟨B, off + k * 3, none⟩ = some (.int .u8 (ops.getD k default).k) ∧ W.cell? ⟨B, off + k * 3 + 1, none⟩ = some (.int .i64 (ops.getD k default).z) ∧ W.cell? ⟨B, off + k * 3 + 2, none⟩ = some (.int .i64 (ops.getD k default).N) from
        ⟨(h.cell (World.block_lt_of_cell? w _ c0)).trans c0, (h.cell (World.block_lt_of_cell? w _ c1)).trans c1, (h.cell (World.block_lt_of_cell? w _ c2)).trans c2⟩))
      have HBL := Lib.hid (show B < w.heap.size from World.block_lt_of_cell? w _ c0)
      clear hc c0 c1 c2
      generalize ops.getD k default = q at *
      obtain ⟨kk, z, N⟩ := q
      obtain ⟨hok1, hok2, hok3⟩ := hok
      dsimp only at HC0 hok1 hok2 hok3
      have HP := Lib.hid P
      have x0 := P.c0; have x1 := P.c1
      clear P
      go_upto_region 12 with fail
      go_cut [9, 10] (fun s9 s10 wx => ∃ D Z, s9 = .pointer (some ⟨D, 0, none⟩) ∧ s10 = .pointer (some ⟨Z, 0, none⟩) ∧ Hid (∃ T, PC w C now L S X m a' cap' D T Z wx))
      case first =>
        have S0 := Lib.hid (HP.out.later (Below.refl _ wr).drew)
        have nx1 : X ≠ wr.heap.size := by have := lt_of_block HP.out.box; omega
        have HCL := Lib.hid (fun W (hb : Below wr.heap.size wr W) => oc_clone (HP.out.oc.later hb))
        go_wp2_with fail
        go_region_held3 (fun w' => w'.cell? ⟨X, 0, none⟩ = some (.int .i64 now) ∧ w'.cell? ⟨X, 1, none⟩ = some (.slice a' m cap')) (first | with_reducible exact S1.oth nx1 _ _ | with_reducible exact ⟨S1.c0, S1.c1⟩ | with_reducible exact ⟨S0.out.c0, S0.out.c1⟩ | with_reducible exact ⟨(S1.later (bal _)).c0, (S1.later (bal _)).c1⟩ | with_reducible exact ⟨(S0.out.later (bal _)).c0, (S0.out.later (bal _)).c1⟩ | with_reducible exact ⟨(HP.out.later (bal _)).c0, (HP.out.later (bal _)).c1⟩ | go_keep)
          ((go_at_call 10; first
            | ((with_reducible refine (HCL.out _ (Below.refl _ _).drew).mono ?_); rintro e w4 ⟨D, T, rfl, ho4, b4, ht4⟩; have S1 := S0.out.later b4)
            | ((with_reducible refine (HCL.out _ (bal _).drew).mono ?_); rintro e w4 ⟨D, T, rfl, ho4, b4, ht4⟩; have S1 := (HP.out.later (bal _).drew).later b4; have hy := (b4.block wr.heap.size (by simp)).trans (heap_alloc_new wr (rcO 0 none 0 0)); have g0 := fofr hy 0; have g1 := fofr hy 1; have d0 := cofr hy 0 _ rfl; have d1 := cofr hy 1 _ rfl)))
        · have HPC := pcA HP.out (below_drew b4) ho4 ht4
          clear S0 S1 HCL ho4 b4 ht4
          go_wp2_with fail
          go_meet
          exact ⟨D, _, rfl, rfl, HPC⟩
        · have HPC := pcB HP.out (below_drew b4) ho4 ht4 hy
          clear S0 S1 HCL ho4 b4 ht4 hy g0 g1 d0 d1
          go_wp2_with fail
          go_meet
          exact ⟨D, _, rfl, rfl, HPC⟩
      case rest =>
        obtain ⟨D, Z, rfl, rfl, HPC⟩ := hcut
        obtain ⟨T, Pc⟩ := HPC.out
        clear HPC HP x0 x1
        have x0 := Pc.p.c0; have x1 := Pc.p.c1
        obtain ⟨o0, o1, o2⟩ := HC0.out wc Pc.p.below
        have HPC := Lib.hid Pc
        clear Pc
        go_upto_region 13 with fail
        go_cut [11, 12] (fun s11 s12 wx => ∃ Y, s11 = .pointer (some ⟨Y, 0, none⟩) ∧ s12 = .bool true ∧ Hid (∃ now2 L' S' a2 cap2, PX w C now2 L' S' X m a2 cap2 Y now L a' cap' D T Z wx))
        case first =>
          have S0 := Lib.hid (HPC.out.later (Below.refl _ wc).drew)
          have HKL := Lib.hid (fun W (hp : PC w C now L S X m a' cap' D T Z W) => does_same hp kk z N hok1 hok2 hok3)
          have nx1 : X ≠ wc.heap.size := by have := lt_of_block HPC.out.p.box; omega
          have nb1 : B ≠ wc.heap.size := by have := HBL.out; have := HPC.out.p.below.size; omega
          go_wp2_with fail
          go_region_held3 (fun w' => w'.cell? ⟨X, 0, none⟩ = some (.int .i64 now) ∧ w'.cell? ⟨X, 1, none⟩ = some (.slice a' m cap') ∧ w'.cell? ⟨B, off + k * 3, none⟩ = some (.int .u8 kk) ∧ w'.cell? ⟨B, off + k * 3 + 1, none⟩ = some (.int .i64 z) ∧ w'.cell? ⟨B, off + k * 3 + 2, none⟩ = some (.int .i64 N)) (first | with_reducible exact K5 | with_reducible exact ⟨q1, q2, q3⟩ | go_keep)
            ((go_at_call 11; first
              | ((with_reducible refine (HKL.out _ S0.out).mono ?_); rintro e w4 ⟨now2, L', a2, cap2, rfl, hl2, hs2, hog, horg⟩; obtain ⟨q0, q1, q2⟩ := S0.out.call hog; have q3 := HC0.out w4 q0)
              | (have S1 := HPC.out.later ((bal (rcO 0 none 0 0)).drew); (with_reducible refine (HKL.out _ S1).mono ?_); rintro e w4 ⟨now2, L', a2, cap2, rfl, hl2, hs2, hog, horg⟩; obtain ⟨q0, q1, q2⟩ := S1.call hog; have q3 := HC0.out w4 q0; obtain ⟨hy, hpx⟩ := pxB HPC.out S1 hl2 hs2 hog horg; have g0 := fofr hy 0; have g1 := fofr hy 1; have d0 := cofr hy 0 _ rfl; have d1 := cofr hy 1 _ rfl; have nx2 : X ∉ [wc.heap.size] := (by simpa using nx1); have nb2 : B ∉ [wc.heap.size] := (by simpa using nb1); have kk2 := kset2 w4 wc.heap.size (.int .i64 now2) (.slice a2 m cap2); have K5 := And.intro (kk2.cell nx2 q1) (And.intro (kk2.cell nx2 q2) (And.intro (kk2.cell nb2 q3.1) (And.intro (kk2.cell nb2 q3.2.1) (kk2.cell nb2 q3.2.2)))))))
          · have HPX := pxA S0.out hl2 hs2 hog horg
            clear S0 hl2 hs2 hog horg q0 q1 q2 q3 HKL
            go_wp2_with fail
            go_meet
            exact ⟨_, rfl, rfl, HPX⟩
          · clear S0 S1 hl2 hs2 hog horg q0 q1 q2 q3 HKL hy g0 g1 d0 d1 K5 kk2
            go_wp2_with fail
            go_meet
            exact ⟨_, rfl, rfl, hpx⟩
        case rest =>
          obtain ⟨Y, rfl, rfl, HPX⟩ := hcut
          obtain ⟨now2, L', S', a2, cap2, Px⟩ := HPX.out
          clear HPX HPC x0 x1 o0 o1 o2
          have y0 := cofr Px.yb 0 _ rfl; have y1 := cofr Px.yb 1 _ rfl
          have x0 := cofr Px.xb 0 _ rfl; have x1 := cofr Px.xb 1 _ rfl; have f0 := fofr Px.xb 0; have f1 := fofr Px.xb 1
          have HQ := Lib.hid Px.put
          have hzx := Px.zx
          clear Px
          go_wp2_with fail
          refine (equal_any HQ.out.1.oc HQ.out.1.sl).mono ?_
          rintro e w6 ⟨rfl, b6⟩
          obtain ⟨Q1, Q2, Q3, Q4⟩ := HQ.out
          have HQ6 := Lib.hid (And.intro (Q1.later b6) (And.intro (Q2.later b6) (Q4.later b6)))
          have z0 := cofr ((b6.block _ (lt_of_block Q3)).trans Q3) 0 _ rfl; have z1 := cofr ((b6.block _ (lt_of_block Q3)).trans Q3) 1 _ rfl
          clear Q1 Q2 Q3 Q4 b6 HQ y0 y1 x0 x1 f0 f1
          by_cases h10 : (k : Int) % 10 = 0
          · go_wp2_with fail
            refine (equal_any HQ6.out.2.1 HQ6.out.2.2).mono ?_
            rintro e w7 ⟨rfl, b7⟩
            have HN : Hid (∃ now L S a' cap', PL w C now L S X m a' cap' w7) := Lib.hid ⟨_, _, _, _, _, HQ6.out.1.later b7⟩
            clear b7 HQ6 z0 z1
            go_wp2_with fail
            go_roundw
            case rel => exact ⟨k + 1, by go_num, by omega, by omega, HN⟩
            case measure => simp [intOf]; omega
          · have HN : Hid (∃ now L S a' cap', PL w C now L S X m a' cap' w6) := Lib.hid ⟨_, _, _, _, _, HQ6.out.1⟩
            clear HQ6 z0 z1
            go_wp2_with fail
            go_roundw
            case rel => exact ⟨k + 1, by go_num, by omega, by omega, HN⟩
            case measure => simp [intOf]; omega
    · have HB := Lib.hid P.below
      clear P
      have hd : (decide ((k : Int) < n) && decide ((k : Int) < 200)) = false := by
        by_cases h1 : k < n
        · have : ¬ k < 200 := fun q => hlt ⟨h1, q⟩
          rw [decide_eq_false (show ¬ ((k : Int) < 200) by omega), Bool.and_false]
        · rw [decide_eq_false (show ¬ ((k : Int) < n) by omega), Bool.false_and]
      by_cases h1 : k < n
      · have : ¬ k < 200 := fun q => hlt ⟨h1, q⟩
        have h2 : decide ((k : Int) < 200) = false := decide_eq_false (by omega)
        go_wp2_with fail
        refine (known_any _).mono ?_
        rintro e w8 ⟨rfl, b8⟩
        have HB8 := Lib.hid (HB.out.trans (b8.mono HB.out.size))
        clear b8 HB
        go_wp2_with fail
        go_ret
        exact ⟨rfl, HB8.out⟩
      · have h2 : decide ((k : Int) < n) = false := decide_eq_false (by omega)
        go_wp2_with fail
        refine (known_any _).mono ?_
        rintro e w8 ⟨rfl, b8⟩
        have HB8 := Lib.hid (HB.out.trans (b8.mono HB.out.size))
        clear b8 HB
        go_wp2_with fail
        go_ret
        exact ⟨rfl, HB8.out⟩
end Go.Proofs.Ytnioaaahkhephaa.al
