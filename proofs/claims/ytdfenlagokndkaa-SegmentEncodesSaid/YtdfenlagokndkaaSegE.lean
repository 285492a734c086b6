/-
  Package segment: Encode.
-/
import Derived.Test.YtdfenlagokndkaaSegL
import Derived.Deep.DrawnRows
namespace Go.Proofs.Ytdfenlagokndkaa.sg
open Go.RowKit aid mem oc op sm
attribute [local go_sem ↓] Go.wp_at_zero Go.wp_at_succ
set_option linter.unusedVariables false

/-- where a slice's room lies -/
def Old (w : World) (b : Option Addr) (bc : Nat) : Prop := ∀ x, b = some x → 0 < bc → x.block < w.heap.size
theorem Old.later {w w' : World} {b : Option Addr} {bc : Nat} (h : Old w b bc) {B : Nat} (hb : Below B w w') : Old w' b bc := fun x hx h0 => Nat.lt_of_lt_of_le (h x hx h0) hb.size
theorem old_own {w : World} {base : Nat} {e : TypeId} {size : Nat} {a : Option Addr} {n cap : Nat} {xs : List Value} (h : w.ownsRow base e size (.slice a n cap) n xs) : Old w a cap := by
  rcases h.2 with ⟨hv, _⟩ | ⟨g, cap', cur, hv, _, hg, _⟩
  · injection hv with h1 _ h3
    subst h1 h3
    exact fun x hx => by cases hx
  · injection hv with h1
    subst h1
    intro x hx _
    injection hx with hx
    subst hx
    exact lt_of_block hg

theorem lay_seg (s : Seg) (a : Option Addr) (n cap : Nat) (b : Option Addr) (m bc : Nat) (oa : Option Addr) (on oc : Nat) (c : Int) (w : World) (hf : s.Fit) (hl : BlA w a n cap s.o.bl) (hb : SlA .u8 w b m bc s.body) (ho : SlA .u8 w oa on oc (enc s.o))
    (hbo : Old w b bc) (hoo : Old w oa oc) (hc : 0 ≤ c ∧ c ≤ 65535) (hk : schk s = 0) :
    Calls Try.prog 45 #[segV s a n cap b m bc, .slice oa on oc, .int .u16 c] w (RetL (layL s c) w) := by
  obtain ⟨_, h1, _, h2⟩ := schk0 hk
  have h3 := (chk0_bl h1).2
  have h4 := ho.len
  have h5 := enc_len s.o
  have h6 := hb.len
  have := lay_any s a n cap b m bc oa on oc (enc s.o) c w hf hl hb ho hbo hoo hc (by omega) (by omega)
  have e : layL s c = [s.kind % 256, ((on : Int) / 4) % 256] ++ two c ++ four s.num ++ enc s.o ++ s.body := by
    unfold layL
    rw [h4]
    simp
  rw [e]
  exact this

/-- a segment in a box and its options' bytes, since w0 -/
structure ES (w0 : World) (B : Nat) (s : Seg) (a : Option Addr) (n cap : Nat) (b : Option Addr) (m bc : Nat) (oa : Option Addr) (on oc : Nat) (w : World) : Prop where
  sm : SM w0 B s a n cap b m bc w
  ob : SlA .u8 w oa on oc (enc s.o)
  hb : Old w b bc
  ho : Old w oa oc
theorem ES.later {w0 : World} {B : Nat} {s : Seg} {a : Option Addr} {n cap : Nat} {b : Option Addr} {m bc : Nat} {oa : Option Addr} {on oc : Nat} {w w' : World} (h : ES w0 B s a n cap b m bc oa on oc w) (hb : Below w.heap.size w w') : ES w0 B s a n cap b m bc oa on oc w' :=
  ⟨h.sm.later hb, h.ob.later hb, h.hb.later hb, h.ho.later hb⟩

/-- bytes, and no error -/
def RetEnc (l : List Int) (w : World) (e : Ending) (w' : World) : Prop := ∃ v, e = .returned (.tuple #[v, .int .i64 0]) ∧ w'.ownsRow w.heap.size 5 1 v l.length (ints .u8 l) ∧ Below w.heap.size w w'

set_option maxRecDepth 100000 in
set_option maxHeartbeats 3200000 in
theorem sencode_ok (s : Seg) (a : Option Addr) (n cap : Nat) (b : Option Addr) (m bc : Nat) (w : World) (hf : s.Fit) (hl : BlA w a n cap s.o.bl) (hb : SlA .u8 w b m bc s.body) (hbo : Old w b bc) (hk : schk s = 0) :
    Calls Try.prog 12 #[segV s a n cap b m bc] w (RetEnc (sencL s) w) := by
  have M0 := sm_new w s a n cap b m bc hl hb
  have O0 := hbo.later (bal (w := w) (.cells #[.int .i64 s.kind, .int .u32 s.num, .int .i64 s.o.mss, .bool s.o.permit, .bool s.o.ts, .int .u32 s.o.val, .int .u32 s.o.ecr, .bool s.o.hs, .int .i64 s.o.scale, .slice a n cap, .slice b m bc] 28))
  have HC := Lib.hid (fun W h1 h2 => scheck_any s a n cap b m bc W hf h1 h2)
  rw [hk] at HC
  have HE := Lib.hid (fun W h1 => encode_ok s.o a n cap W hf.o h1 (schk0 hk).2.1)
  unfold optCells at HE
  have HL := Lib.hid (fun oa on oc W h1 h2 h3 h4 h5 => lay_seg s a n cap b m bc oa on oc 0 W hf h1 h2 h3 h4 h5 (by omega) hk)
  have HLK := Lib.hid (fun oa on oc W h1 h2 h3 h4 h5 => lay_seg s a n cap b m bc oa on oc (keyL s) W hf h1 h2 h3 h4 h5 (keyL_bd s) hk)
  rw [show layL s (keyL s) = sencL s from rfl] at HLK
  have HB0 : Hid (∀ x ∈ layL s 0, 0 ≤ x ∧ x ≤ 255) := Lib.hid (bd_lay s hf (schk0 hk).2.1 0 (by omega))
  have HKEY : Hid (65535 - sumB (layL s 0) = keyL s) := Lib.hid rfl
  clear hl hb hbo hk
  go_enter Try.func12, Try.ntmps12
  go_wp2_with fail
  generalize w.alloc (.cells #[.int .i64 s.kind, .int .u32 s.num, .int .i64 s.o.mss, .bool s.o.permit, .bool s.o.ts, .int .u32 s.o.val, .int .u32 s.o.ecr, .bool s.o.hs, .int .i64 s.o.scale, .slice a n cap, .slice b m bc] 28) = W at *
  generalize hB : w.heap.size = B at M0
  have HB := Lib.hid hB
  clear hB
  refine (HC.out _ M0.bl M0.body).mono ?_
  rintro e w1 ⟨rfl, h1⟩
  have M1 := M0.later h1
  have O1 := Lib.hid (O0.later h1)
  obtain ⟨c0, c1, c2, c3, c4, c5, c6, c7, c8, c9, c10⟩ := M1.at_.cs
  clear M0 h1 O0
  go_wp2_with fail
  refine (HE.out _ M1.bl).mono ?_
  rintro e w2 ⟨v, rfl, hown, h2⟩
  obtain ⟨oa, oc, hv, hs2, hob⟩ := sl_of_own hown
  subst hv
  have E2 : ES w B s a n cap b m bc oa (enc s.o).length oc w2 := ⟨M1.later h2, hs2, O1.out.later h2, old_own hown⟩
  obtain ⟨on, hon⟩ : ∃ on, (enc s.o).length = on := ⟨_, rfl⟩
  rw [hon] at E2 ⊢
  have HON := Lib.hid hon
  clear M1 hown h2 hs2 hob O1 hon c0 c1 c2 c3 c4 c5 c6 c7 c8 c9 c10
  go_wp2_with fail
  have D2 := E2.later (Below.refl _ _).drew
  generalize layL s 0 = L0 at *
  generalize sencL s = L1 at *
  generalize keyL s = K at *
  go_region_held3 (fun w' => w'.cell? ⟨B, 0, none⟩ = some (.int .i64 s.kind) ∧ w'.cell? ⟨B, 1, none⟩ = some (.int .u32 s.num) ∧ w'.cell? ⟨B, 2, none⟩ = some (.int .i64 s.o.mss) ∧ w'.cell? ⟨B, 3, none⟩ = some (.bool s.o.permit) ∧ w'.cell? ⟨B, 4, none⟩ = some (.bool s.o.ts) ∧ w'.cell? ⟨B, 5, none⟩ = some (.int .u32 s.o.val) ∧ w'.cell? ⟨B, 6, none⟩ = some (.int .u32 s.o.ecr) ∧ w'.cell? ⟨B, 7, none⟩ = some (.bool s.o.hs) ∧ w'.cell? ⟨B, 8, none⟩ = some (.int .i64 s.o.scale) ∧ w'.cell? ⟨B, 9, none⟩ = some (.slice a n cap) ∧ w'.cell? ⟨B, 10, none⟩ = some (.slice b m bc)) (first | with_reducible exact E5.sm.at_.cs.all | with_reducible exact E4.sm.at_.cs.all | with_reducible exact (E3.later (bal _)).sm.at_.cs.all | with_reducible exact E3.sm.at_.cs.all | with_reducible exact D2.sm.at_.cs.all | with_reducible exact E2.sm.at_.cs.all | go_keep) (first
    | (go_at_call 45; (with_reducible refine (HL.out oa on oc _ D2.sm.bl D2.sm.body D2.ob D2.hb D2.ho).mono ?_); rintro e w3 ⟨v3, rfl, own3, h3⟩; obtain ⟨a3, c3, hv3, hs3, hb3⟩ := sl_of_own own3; subst hv3; have E3 := D2.later h3; clear D2 E2 h3 own3 hb3)
    | (go_at_call 46; go_must ((with_reducible refine (check_one hs3 HB0.out _ _ rfl).mono ?_); rintro e w4 ⟨rfl, h4⟩; rw [HKEY.out]; have E4 := E3.later h4; clear E3 h4 hs3))
    | (go_at_call 45; (with_reducible refine (HLK.out oa on oc _ E4.sm.bl E4.sm.body E4.ob E4.hb E4.ho).mono ?_); rintro e w5 ⟨v5, rfl, own5, h5⟩; have G5 := Lib.hid (own_base (base' := w.heap.size) own5 (fun g hg => by have := (own5.lt g hg).1; have := E4.sm.below.size; omega)); obtain ⟨a5, c5, hv5⟩ := own_form own5; subst hv5; have E5 := E4.later h5; clear E4 h5 own5))
  all_goals
    go_wp2
    go_ret2
    exact ⟨_, rfl, G5.out, E5.sm.below⟩
end Go.Proofs.Ytdfenlagokndkaa.sg
