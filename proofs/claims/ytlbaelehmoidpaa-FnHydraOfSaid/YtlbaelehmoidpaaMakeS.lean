/- The model's l1Make: a row out of numbers and exponents. -/
import Derived.Test.YtlbaelehmoidpaaMake
import Derived.Test.YtlbaelehmoidpaaOld
import Derived.Deep.AppendLies
import Derived.Deep.RegionHeld3
namespace Go.Proofs.Ytlbaelehmoidpaa
set_option maxRecDepth 100000
open Go.RowKit

/-- A slice of exponents. -/
def Ex (w : World) (ao : Option Addr) (n : Nat) (t : T) : Prop :=
  n = t.cnt ∧ ∃ es, EC w t es ∧ (0 < n → ∃ g, ao = some ⟨g, 0, none⟩ ∧ g < w.heap.size ∧ ∀ j, j < n → w.cell? ⟨g, j, none⟩ = es[j]?)

theorem Ex.of_own {w : World} {B n cap : Nat} {ao : Option Addr} {t : T} {es : List Value} (h : w.ownsRow B 23 1 (.slice ao n cap) n es) (hT : EC w t es) (hn : n = t.cnt) : Ex w ao n t := by
  refine ⟨hn, es, hT, fun hp => ?_⟩
  obtain ⟨g, cap', hv⟩ := Joins.ownsRow_form h hp
  simp at hv
  obtain ⟨rfl, rfl⟩ := hv
  exact ⟨g, rfl, (h.lt g rfl).2, fun j hj => h.cellAt j (by omega)⟩

theorem At.grown1 {wr w1 : World} {B e n size : Nat} {v : Value} {ys : List Value} (ho : wr.ownsRow B e size v n ys) {o1 : Obj}
    (hg : (wr.alloc o1).drew.grownBy w1 v.ownBlock) {b off : Nat} {xs : List Int} (h : At wr b off xs) (hb : b < B) (hx : xs ≠ []) : At w1 b off xs := by
  have hlt := h.lt hx
  intro j hj
  refine hg.cell (a := ⟨b, off + j, none⟩) ?_ ?_
  · show (wr.alloc o1).cell? ⟨b, off + j, none⟩ = _
    rw [World.cell?_alloc_past _ _ _ hlt]
    exact h j hj
  · intro h'
    have := (ho.lt b h'.symm).1
    omega

theorem cell_grown1 {wr w1 : World} {B e n size : Nat} {v : Value} {ys : List Value} (ho : wr.ownsRow B e size v n ys) {o1 : Obj}
    (hg : (wr.alloc o1).drew.grownBy w1 v.ownBlock) {b o : Nat} {x : Value} (h : wr.cell? ⟨b, o, none⟩ = some x) (hb : b < B) : w1.cell? ⟨b, o, none⟩ = some x := by
  have hlt : b < wr.heap.size := World.block_lt_of_cell? wr _ h
  refine hg.cell ?_ ?_
  · show (wr.alloc o1).cell? ⟨b, o, none⟩ = _
    rw [World.cell?_alloc_past _ _ _ hlt]
    exact h
  · intro h'
    have h2 : B ≤ b := (ho.lt _ h'.symm).1
    omega

theorem cell_grown2 {wr w1 : World} {B e n size : Nat} {v : Value} {ys : List Value} (ho : wr.ownsRow B e size v n ys)
    (hg : wr.grownBy w1 v.ownBlock) {p : Addr} {x : Value} (h : wr.cell? p = some x) (hb : p.block < B) : w1.cell? p = some x := by
  refine hg.cell h ?_
  intro h'
  have := (ho.lt _ h'.symm).1
  omega

theorem le_of_drew {w w' : World} {o : Obj} {row : Option Nat} (hg : (w.alloc o).drew.grownBy w' row) : w.heap.size + 1 ≤ w'.heap.size := by
  have h : (w.alloc o).drew.heap.size ≤ w'.heap.size := hg.size
  have h2 : (w.alloc o).drew.heap.size = w.heap.size + 1 := World.size_alloc w o
  omega

set_option maxHeartbeats 1000000 in
theorem l1Make_any (a1 a2 : Option Addr) (n c1 c2 : Nat) (t : T) (w : World) (hl : t.enc.length ≤ 1000000000000) (h : Ex w a2 n t) (hx : Sl w a1 n c1 t.times) :
    Calls Try.prog 77 #[.slice a1 n c1, .slice a2 n c2] w fun e w' => ∃ a' c', e = .returned (.slice a' t.enc.length c') ∧
      w'.ownsRow w.heap.size 3 1 (.slice a' t.enc.length c') t.enc.length (ints t.enc) ∧ Below w.heap.size w w' := by
  obtain ⟨hn, es, hE, hA⟩ := h
  obtain ⟨i0, hi, hz0, hz1, hz2⟩ := info_parts info_int
  have hel := T.enc_len t
  have hcb := T.cnt_le t
  have hnb : n ≤ 1000000000000 := by omega
  have HN := Lib.hid hn
  have HA := Lib.hid hA
  have HL := Lib.hid hl
  have HE := Lib.hid hel
  have HX := Lib.hid hx
  clear hn hA hl hel hcb hx
  go_enter Try.func77, Try.ntmps77
  go_wp2_with fail
  go_loopw [5, 6] (fun v i wr => ∃ (k m : Nat) (d u : T), k ≤ n ∧ Hid (d.app u = t ∧ d.cnt = k ∧ m = 1 + d.body.length ∧ m + u.body.length = t.enc.length) ∧ i = .int .i64 k ∧ wr.ownsRow w.heap.size 3 1 v m (ints ((n : Int) :: d.body)) ∧ Below w.heap.size w wr) (fun _ i _ => n - (intOf i).toNat)
  case atStart => exact ⟨0, 1, .z, t, Nat.zero_le _, ⟨rfl, rfl, rfl, by have := HE.out; omega⟩, rfl, World.ownsRow_lit w _ 1 (Nat.le_refl _) (by simp [maxLen]) rfl, (Below.refl _ _).alloc (Nat.le_refl _) _⟩
  case round =>
    obtain ⟨k, m, d, u, hk, HU, rfl, ho, hbel⟩ := hrel
    obtain ⟨h1, h2, h3, h4⟩ := HU.out
    have hct : t.cnt = k + u.cnt := by rw [← h1, T.app_cnt, h2]
    by_cases hlt : k < n
    · obtain ⟨x, e, r, rfl⟩ : ∃ n e r, u = .c n e r := T.cnt_pos (by have := HN.out; omega)
      obtain ⟨g, rfl, hgl, hcs⟩ := HA.out (by omega)
      obtain ⟨b1, o1, rfl, hat⟩ := HX.out.2.2.2 (by omega)
      obtain ⟨be, oe, ce, p2, p3, p4, p5⟩ := hE.pick h1 h2
      have hxl : k < t.times.length := by rw [T.times_len]; have := HN.out; omega
      have x1 : wr.cell? ⟨b1, o1 + k, none⟩ = some (.int .i64 x) := (hbel.cell (p := ⟨b1, o1 + k, none⟩) (hat.lt (by intro h; rw [h] at hxl; simp at hxl))).trans ((hat k hxl).trans (by
        have := T.times_pick h1 h2
        simp [List.getD, this]))
      have x2 : wr.cell? ⟨g, k, none⟩ = some (.slice (some ⟨be, oe, none⟩) e.enc.length ce) := (hbel.cell (p := ⟨g, k, none⟩) hgl).trans (by rw [hcs _ (by omega)]; exact p2)
      have hate : At wr be oe e.enc := p3.below hbel (p3.lt (T.enc_ne e))
      have Hlb := Lib.hid (show be < w.heap.size from p3.lt (T.enc_ne e))
      have Hlb1 := Lib.hid (show b1 < w.heap.size from hat.lt (by intro h; rw [h] at hxl; simp at hxl))
      have Hlg := Lib.hid hgl
      have Hate := Lib.hid hate
      have Hbel := Lib.hid hbel
      have hsz := hbel.size
      have hee := T.enc_len e
      have hpe : 0 < e.enc.length := by omega
      have hbody : (T.c x e r).body.length = 1 + e.enc.length + r.body.length := by rw [T.body_c]; simp; omega
      have hm : m + 1 + e.enc.length + r.body.length = t.enc.length := by rw [hbody] at h4; omega
      have hmb : m + 1 + e.enc.length ≤ 1000000000000 := by have := HL.out; omega
      have Hm := Lib.hid hm
      clear h1 h2 h3 h4 hct p2 p3 hate hbel hcs hee hbody hm hat hxl
      go_wp2_with fail
      go_region_held3 (fun w' => w'.cell? ⟨b1, o1 + k, none⟩ = some (.int .i64 x) ∧ w'.cell? ⟨g, k, none⟩ = some (.slice (some ⟨be, oe, none⟩) e.enc.length ce))
        (first | go_keep | exact ⟨cell_grown1 ho hgrow x1 Hlb1.out, cell_grown1 ho hgrow x2 Hlg.out⟩ | exact ⟨cell_grown2 hown1 hgrow2 (cell_grown1 ho hgrow x1 Hlb1.out) Hlb1.out, cell_grown2 hown1 hgrow2 (cell_grown1 ho hgrow x2 Hlg.out) Hlg.out⟩)
        ((first
          | (refine step_append_lies _ (by rfl) (.tmp 16) (.tmp 21) _ (by rfl) w.heap.size 3 i0 _ 1 8 Try.underlying23 hi hz0 hz1 hz2 rfl (by decide) _ m (ints ((n : Int) :: d.body)) (by rfl) ((ho.alloc _).drew) ⟨wr.heap.size, 0, none⟩ 1 1 [.int .i64 x] (by rfl) (by rfl) (cell_one_new _ _ _) (ints_oneCell _ [x]) (by omega) (by unfold maxLen; omega) (by omega) (by simp; omega) (wr.heap.size + 1) (by simp) ?_; intro g1 cap1 w1 hown1 hgrow hat1 hlt1; have Hat1 := Lib.hid (Hate.out.grown1 ho hgrow Hlb.out (T.enc_ne e)); have hw1 := le_of_drew hgrow)
          | (refine step_append_lies _ (by rfl) (.tmp 22) (.tmp 26) _ (by rfl) w.heap.size 3 i0 _ 1 8 Try.underlying23 hi hz0 hz1 hz2 rfl (by decide) _ (m + 1) _ (by rfl) hown1 ⟨be, oe, none⟩ e.enc.length ce (ints e.enc) (by rfl) (by rw [ints_len, Nat.mul_one]) (At.news Hat1.out) (ints_one _) (by omega) (by unfold maxLen; omega) (by omega) (by omega) w1.heap.size rfl ?_; intro g2 cap2 w2 hown2 hgrow2 hat2 hlt2)))
      go_wp2_with fail
      go_roundw
      case rel =>
        have h6 := HU.out
        have hb1 := ((Hbel.out.alloc (by omega) _).drew).grown hgrow (by simp; omega) (fun k hk => (ho.lt k hk).1)
        have hb2 := hb1.grown hgrow2 (by omega) (fun k hk => (hown1.lt k hk).1)
        refine ⟨k + 1, m + 1 + e.enc.length, d.app (.c x e .z), r, by omega, ⟨?_, ?_, ?_, Hm.out⟩, by go_num, ?_, hb2⟩
        · rw [T.app_assoc]; exact h6.1
        · rw [T.app_cnt, h6.2.1]; rfl
        · rw [T.app_body, T.body_c]; simp [T.body]; omega
        · have e1 : ints ((n : Int) :: (d.app (.c x e .z)).body) = ints ((n : Int) :: d.body) ++ [.int .i64 x] ++ ints e.enc := by
            rw [T.app_body, T.body_c]; simp [ints, T.body]
          rw [e1]
          exact hown2
      case measure => simp [intOf]; omega
    · have hu : u = .z := T.cnt_zero (by have := HN.out; omega)
      subst hu
      have hdt : d = t := by rw [T.app_z] at h1; exact h1
      subst hdt
      have hmd : m = d.enc.length := by simpa [T.body] using h4
      subst hmd
      obtain ⟨a', c', rfl, _⟩ := own_form ho
      have Ho := Lib.hid ho
      have hnk : n ≤ k := by omega
      clear h1 h2 h3 h4 hct ho
      go_wp2_with fail
      go_ret
      exact ⟨a', c', rfl, by have := Ho.out; rw [HN.out] at this; exact this, hbel⟩

end Go.Proofs.Ytlbaelehmoidpaa
