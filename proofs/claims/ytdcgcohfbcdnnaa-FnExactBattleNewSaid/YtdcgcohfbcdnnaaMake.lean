/- Rows out of terms: the program's ordOfTerms and fittingOrd, the model's l1Make. -/
import Derived.Test.YtdcgcohfbcdnnaaFn3
import Derived.Test.YtdcgcohfbcdnnaaMakeK
namespace Go.Proofs.Ytdcgcohfbcdnnaa
set_option maxRecDepth 100000
open Go.RowKit

/-- A slice of terms. -/
def Tm (w : World) (ao : Option Addr) (n : Nat) (t : T) : Prop :=
  n = t.cnt ∧ ∃ cs, TC w t cs ∧ (0 < n → ∃ g, ao = some ⟨g, 0, none⟩ ∧ g < w.heap.size ∧ ∀ j, j < 2 * n → w.cell? ⟨g, j, none⟩ = cs[j]?)

theorem Tm.of_own {w : World} {B n cap : Nat} {ao : Option Addr} {t : T} {cs : List Value} (h : w.ownsRow B 116 2 (.slice ao n cap) n cs) (hT : TC w t cs) (hn : n = t.cnt) : Tm w ao n t := by
  refine ⟨hn, cs, hT, fun hp => ?_⟩
  obtain ⟨g, cap', hv⟩ := Joins.ownsRow_form h hp
  simp at hv
  obtain ⟨rfl, rfl⟩ := hv
  exact ⟨g, rfl, (h.lt g rfl).2, fun j hj => h.cellAt j (by omega)⟩

theorem Tm.below {w w' : World} {ao : Option Addr} {n : Nat} {t : T} (h : Tm w ao n t) (hb : Below w.heap.size w w') : Tm w' ao n t := by
  obtain ⟨h1, cs, h2, h3⟩ := h
  refine ⟨h1, cs, h2.below hb, fun hp => ?_⟩
  obtain ⟨g, h4, h5, h6⟩ := h3 hp
  exact ⟨g, h4, Nat.lt_of_lt_of_le h5 hb.size, fun j hj => (hb.cell (p := ⟨g, j, none⟩) h5).trans (h6 j hj)⟩

theorem box_kept {wr w1 : World} {B e n size : Nat} {v : Value} {xs : List Value} (ho : wr.ownsRow B e size v n xs) {a b : Value} {ty : TypeId} {o2 : Obj}
    (hg : ((wr.alloc (.cells #[a, b] ty)).alloc o2).grownBy w1 v.ownBlock) : w1.cell? ⟨wr.heap.size, 1, none⟩ = some b := by
  refine hg.cell (a := ⟨wr.heap.size, 1, none⟩) ?_ ?_
  · have h1 : ((wr.alloc (.cells #[a, b] ty)).alloc o2).cell? ⟨wr.heap.size, 1, none⟩ = (wr.alloc (.cells #[a, b] ty)).cell? ⟨wr.heap.size, 1, none⟩ := World.cell?_alloc_past _ _ _ (by simp)
    rw [h1, Joins.cell_alloc_mark_at _ _ _ _ _ _ rfl]
    rfl
  · intro h
    have := (ho.lt _ h.symm).2
    exact absurd this (Nat.lt_irrefl _)

/-- A row that lies still behind an append to another one. -/
theorem At.grown {wr w1 : World} {B e n size : Nat} {v : Value} {ys : List Value} (ho : wr.ownsRow B e size v n ys) {o1 o2 : Obj}
    (hg : ((wr.alloc o1).alloc o2).grownBy w1 v.ownBlock) {b off : Nat} {xs : List Int} (h : At wr b off xs) (hb : b < B) (hx : xs ≠ []) : At w1 b off xs := by
  have hlt := h.lt hx
  intro j hj
  refine hg.cell (a := ⟨b, off + j, none⟩) ?_ ?_
  · rw [World.cell?_alloc_past _ _ _ (by simp; omega), World.cell?_alloc_past _ _ _ (by simpa using hlt)]
    exact h j hj
  · intro h'
    have := (ho.lt b h'.symm).1
    omega

set_option maxHeartbeats 1000000 in
theorem ordOfTerms_any (ao : Option Addr) (n cap : Nat) (t : T) (w : World) (hl : t.enc.length ≤ 1000000000000) (h : Tm w ao n t) :
    Calls Try.prog 110 #[.slice ao n cap] w fun e w' => ∃ a' c', e = .returned (.slice a' t.enc.length c') ∧
      w'.ownsRow w.heap.size 3 1 (.slice a' t.enc.length c') t.enc.length (ints t.enc) ∧ Below w.heap.size w w' := by
  obtain ⟨hn, cs, hT, hA⟩ := h
  obtain ⟨i0, hi, hz0, hz1, hz2⟩ := info_parts info_int
  have hel := T.enc_len t
  have hcb := T.cnt_le t
  have hnb : n ≤ 1000000000000 := by omega
  have HN := Lib.hid hn
  have HA := Lib.hid hA
  have HL := Lib.hid hl
  have HE := Lib.hid hel
  clear hn hA hl hel hcb
  go_enter Try.func110, Try.ntmps110
  go_wp2_with fail
  go_loopw [3, 11] (fun v i wr => ∃ (k m : Nat) (d u : T), k ≤ n ∧ Hid (d.app u = t ∧ d.cnt = k ∧ m = 1 + d.body.length ∧ m + u.body.length = t.enc.length) ∧ i = .int .i64 k ∧ wr.ownsRow w.heap.size 3 1 v m (ints ((n : Int) :: d.body)) ∧ Below w.heap.size w wr) (fun _ i _ => n - (intOf i).toNat)
  case atStart => exact ⟨0, 1, .z, t, Nat.zero_le _, ⟨rfl, rfl, rfl, by have := HE.out; omega⟩, rfl, World.ownsRow_lit w _ 1 (Nat.le_refl _) (by simp [maxLen]) rfl, (Below.refl _ _).alloc (Nat.le_refl _) _⟩
  case round =>
    obtain ⟨k, m, d, u, hk, HU, rfl, ho, hbel⟩ := hrel
    obtain ⟨h1, h2, h3, h4⟩ := HU.out
    have hct : t.cnt = k + u.cnt := by rw [← h1, T.app_cnt, h2]
    by_cases hlt : k < n
    · obtain ⟨x, e, r, rfl⟩ : ∃ n e r, u = .c n e r := T.cnt_pos (by have := HN.out; omega)
      obtain ⟨g, rfl, hgl, hcs⟩ := HA.out (by omega)
      obtain ⟨be, oe, ce, p1, p2, p3, p4, p5⟩ := hT.pick h1 h2
      have x1 : wr.cell? ⟨g, k * 2, none⟩ = some (.int .i64 x) := (hbel.cell (p := ⟨g, k * 2, none⟩) hgl).trans (by rw [hcs _ (by omega), Nat.mul_comm]; exact p1)
      have x2 : wr.cell? ⟨g, k * 2 + 1, none⟩ = some (.slice (some ⟨be, oe, none⟩) e.enc.length ce) := (hbel.cell (p := ⟨g, k * 2 + 1, none⟩) hgl).trans (by rw [hcs _ (by omega), Nat.mul_comm]; exact p2)
      have hate : At wr be oe e.enc := p3.below hbel (p3.lt (T.enc_ne e))
      have Hate := Lib.hid hate
      have Hlb := Lib.hid (show be < w.heap.size from p3.lt (T.enc_ne e))
      have Hbel := Lib.hid hbel
      have hsz := hbel.size
      have hee := T.enc_len e
      have hbody : (T.c x e r).body.length = 1 + e.enc.length + r.body.length := by rw [T.body_c]; simp; omega
      have hm : m + 1 + e.enc.length + r.body.length = t.enc.length := by rw [hbody] at h4; omega
      have hmb : m + 1 + e.enc.length ≤ 1000000000000 := by have := HL.out; omega
      have Hm := Lib.hid hm
      have htn : ∀ (w1 : World) (o1 o2 : Obj), ((wr.alloc o1).alloc o2).heap.size ≤ w1.heap.size → wr.heap.size + 2 ≤ w1.heap.size := fun w1 o1 o2 h => by simpa using h
      have Htn := Lib.hid htn
      clear h1 h2 h3 h4 hct p1 p2 p3 hate hbel hcs hee hbody hm htn
      go_wp2_with (first
        | (at_builtin; refine wpList_append_own _ rfl (.tmp 15) (.tmp 18) 22 rfl w.heap.size 3 i0 (.int .i64 0) 1 8 Try.underlying22 hi hz0 hz1 hz2 rfl (by decide) _ _ _ rfl ((ho.alloc _).alloc _) ⟨wr.heap.size + 1, 0, none⟩ 1 1 [.int .i64 x] rfl rfl (cell_one_at _ _ _ _ (by simp)) (ints_oneCell _ [x]) (by unfold maxLen; omega) (by omega) (by simp; omega) ?_; intro v1' w1 ho1' hg1 _; have hw1 := Htn.out _ _ _ hg1.size; have hbx := box_kept ho hg1; have Hat1 := Lib.hid (Hate.out.grown ho hg1 Hlb.out (T.enc_ne e)))
        | (at_builtin; refine wpList_append_own _ rfl (.tmp 20) (.tmp 22) 22 rfl w.heap.size 3 i0 (.int .i64 0) 1 8 Try.underlying22 hi hz0 hz1 hz2 rfl (by decide) _ _ _ rfl ho1' ⟨be, oe, none⟩ e.enc.length ce (ints e.enc) rfl (by rw [ints_len, Nat.mul_one]) (At.news Hat1.out) (ints_one _) (by unfold maxLen; omega) (by omega) (by omega) ?_; intro v2' w2 ho2' hg2 _))
      go_roundw
      case rel =>
        have h6 := HU.out
        have hb1 := ((Hbel.out.alloc (by omega) _).alloc (by simp; omega) _).grown hg1 (by simp; omega) (fun k hk => (ho.lt k hk).1)
        have hb2 := hb1.grown hg2 (by omega) (fun k hk => (ho1'.lt k hk).1)
        refine ⟨k + 1, m + 1 + e.enc.length, d.app (.c x e .z), r, by omega, ⟨?_, ?_, ?_, Hm.out⟩, by go_num, ?_, hb2⟩
        · rw [T.app_assoc]; exact h6.1
        · rw [T.app_cnt, h6.2.1]; rfl
        · rw [T.app_body, T.body_c]; simp [T.body]; omega
        · have e1 : ints ((n : Int) :: (d.app (.c x e .z)).body) = ints ((n : Int) :: d.body) ++ [.int .i64 x] ++ ints e.enc := by
            rw [T.app_body, T.body_c]; simp [ints, T.body]
          rw [e1]
          exact ho2'
      case measure => simp [intOf]; omega
    · have hu : u = .z := T.cnt_zero (by have := HN.out; omega)
      subst hu
      have hdt : d = t := by rw [T.app_z] at h1; exact h1
      subst hdt
      have hmd : m = d.enc.length := by simpa [T.body] using h4
      subst hmd
      obtain ⟨a', c', rfl, _⟩ := own_form ho
      have Ho := Lib.hid ho
      have hnk : n ≤ k := by omega
      clear h1 h2 h3 h4 hct ho
      go_wp2_with fail
      go_ret
      exact ⟨a', c', rfl, by have := Ho.out; rw [HN.out] at this; exact this, hbel⟩

/-- A row, if it is valid, and whether it is. -/
theorem fittingOrd_any (ao : Option Addr) (n cap : Nat) (t : T) (w : World) (hl : t.enc.length ≤ 1000000000000) (h : Tm w ao n t) :
    Calls Try.prog 104 #[.slice ao n cap] w fun e w' => ∃ a' c', e = .returned (.tuple #[.slice a' (T.fit t).length c', .bool (T.vldB t.enc)]) ∧
      w'.ownsRow w.heap.size 3 1 (.slice a' (T.fit t).length c') (T.fit t).length (ints (T.fit t)) ∧ Below w.heap.size w w' := by
  have k1 := Lib.hid (ordOfTerms_any ao n cap t w hl h)
  clear h
  go_enter Try.func104, Try.ntmps104
  go_wp2_with fail
  refine (k1.out).mono ?_
  rintro ee w1 ⟨a', c', rfl, ho, hb1⟩
  have Ho := Lib.hid ho
  have Hb1 := Lib.hid hb1
  have k2 := Lib.hid (impl_OrdValid a' t.enc.length c' t.enc w1 (Sl.of_own ho))
  clear ho hb1
  go_wp2_with fail
  refine (k2.out).mono ?_
  rintro ee w2 ⟨rfl, hb2⟩
  have Hb2 := Lib.hid (Hb1.out.trans (hb2.mono Hb1.out.size))
  have Ho2 := Lib.hid (ownsRow_below' Ho.out hb2)
  clear hb2
  rcases vld_tf t.enc with h1 | h1
  · have hf : T.fit t = t.enc := by rw [T.fit, if_pos h1]
    have HF := Lib.hid hf
    have H1 := Lib.hid h1
    rw [h1]
    clear hf h1
    go_wp2_with fail
    go_ret2
    exact ⟨a', c', by rw [HF.out, H1.out]; rfl, by rw [HF.out]; exact Ho2.out, Hb2.out⟩
  · have hf : T.fit t = [] := by rw [T.fit, if_neg (by rw [h1]; simp)]
    have HF := Lib.hid hf
    have H1 := Lib.hid h1
    rw [h1]
    clear hf h1
    go_wp2_with fail
    go_ret2
    exact ⟨none, 0, by rw [HF.out, H1.out]; rfl, by rw [HF.out]; exact World.ownsRow_nil _ _ _ _, Hb2.out⟩

end Go.Proofs.Ytdcgcohfbcdnnaa
