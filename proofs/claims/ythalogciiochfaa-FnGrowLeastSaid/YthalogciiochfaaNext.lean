/- OrdNext: the program's and the model's answers. -/
import Derived.Test.YthalogciiochfaaMake
import Derived.Test.YthalogciiochfaaOld
namespace Go.Proofs.Ythalogciiochfaa
set_option maxRecDepth 100000
open Go.RowKit

theorem T.nf_last {d : T} {n : Int} {e r : T} (h : (d.app (.c n e r)).Nf) : 1 ≤ n ∧ n ≤ 9999 ∧ e.Nf := by
  induction d with
  | z => exact ⟨h.1, h.2.1, h.2.2.1⟩
  | c m f q _ ih => exact ih h.2.2.2.1

theorem TC.set {w : World} {d e r : T} {n m : Int} {cs : List Value} (h : TC w (d.app (.c n e r)) cs) : TC w (d.app (.c m e r)) (cs.set (2 * d.cnt) (.int .i64 m)) := by
  induction d generalizing cs with
  | z =>
    obtain ⟨b, off, cap, cs', rfl, h1, h2, h3, h4⟩ := h
    exact ⟨b, off, cap, cs', by simp [T.cnt], h1, h2, h3, h4⟩
  | c k f q _ ih =>
    obtain ⟨b, off, cap, cs', rfl, h1, h2, h3, h4⟩ := h
    refine ⟨b, off, cap, _, ?_, h1, h2, h3, ih h4⟩
    rw [show 2 * (T.c k f q).cnt = 2 * q.cnt + 2 by simp [T.cnt]; omega]
    rfl

theorem two_one (x y : Value) (hx : x.oneCell' = true) (hy : y.oneCell' = true) : ∀ u ∈ [x, y], u.oneCell' = true := by
  intro u hu
  simp at hu
  rcases hu with rfl | rfl
  · exact hx
  · exact hy

theorem T.enc_app_len (t : T) : (t.app (.c 1 .z .z)).enc.length = t.enc.length + 2 := by
  rw [T.enc_len, T.enc_len, T.app_body, T.body_c]; simp [T.enc, T.body]

set_option maxHeartbeats 2000000 in
theorem impl_OrdNext (ao : Option Addr) (len cap : Nat) (xs : List Int) (w : World) (h : Sl w ao len cap xs) :
    Calls Try.prog 35 #[.slice ao len cap] w fun e w' => ∃ a' c', e = .returned (.tuple #[.slice a' (T.nextRow xs).length c', .bool (T.nextOk xs)]) ∧
      w'.ownsRow w.heap.size 3 1 (.slice a' (T.nextRow xs).length c') (T.nextRow xs).length (ints (T.nextRow xs)) ∧ Below w.heap.size w w' := by
  rcases vld_tf xs with h1 | h1
  · have k1 := Lib.hid (impl_valid ao len cap xs w h h1)
    have H := Lib.hid h
    obtain ⟨b, off, t, rfl, rfl, hs, hos, hat, hn, hl, hp, hc, hm⟩ := h.valid h1
    have hr : T.nextRow t.enc = T.fit t.next := by rw [T.nextRow, if_pos h1, hos]
    have hr2 : T.nextOk t.enc = T.vldB t.next.enc := by rw [T.nextOk, h1, hos]; rfl
    have hk : T.kindRow t.enc = t.kind := by rw [T.kindRow, if_pos h1, hos]
    rw [hr, hr2]
    have HA := Lib.hid hat
    have HN := Lib.hid hn
    have HS := Lib.hid hs
    have HK := Lib.hid hk
    have hcl : t.cnt ≤ 60 := by have := T.cnt_le t; have := T.enc_len t; omega
    obtain ⟨i0, hi, hz0, hz1, hz2⟩ := info_parts info_term
    clear h1 hos hs hat hn hr hr2 hk
    go_enter Try.func35, Try.ntmps35
    go_wp2_with fail
    refine (k1.out).mono ?_
    rintro ee w1 ⟨rfl, hb1⟩
    have Hb1 := Lib.hid hb1
    have k2 := Lib.hid (termsOf_old b off len cap t.enc t w1 HN.out.symm (by omega) hc hm (HA.out.below hb1 (HA.out.lt (T.enc_ne t))) rfl)
    clear hb1
    go_wp2_with fail
    refine (k2.out).mono ?_
    rintro ee w2 ⟨cs, rfl, ho, hT, hb2⟩
    have Hb2 := Lib.hid (Hb1.out.trans (hb2.mono Hb1.out.size))
    have Hb12 := Lib.hid hb2
    have k3 := Lib.hid (impl_OrdKind (some ⟨b, off, none⟩) len cap t.enc w2 (H.out.below Hb2.out))
    obtain ⟨g, hg⟩ : ∃ g, g = w1.heap.size := ⟨_, rfl⟩
    rw [← hg] at ho ⊢
    have Hg := Lib.hid hg
    have Ho := Lib.hid ho
    have HT := Lib.hid hT
    clear hb2 hg ho hT
    go_wp2_with fail
    refine (k3.out).mono ?_
    rintro ee w3 ⟨rfl, hb3⟩
    have Hb3 := Lib.hid (Hb2.out.trans (hb3.mono Hb2.out.size))
    have Hb13 := Lib.hid (Hb12.out.trans (hb3.mono Hb12.out.size))
    have Ho3 := Lib.hid (ownsRow_below' Ho.out hb3)
    rw [HK.out]
    clear hb3
    by_cases hk1 : t.kind = 1
    · have hkb : (t.kind == 1) = true := by rw [hk1]; rfl
      have hpos : 0 < t.cnt := by
        rcases Nat.eq_zero_or_pos t.cnt with h | h
        · rw [T.cnt_zero h] at hk1; simp [T.kind] at hk1
        · exact h
      obtain ⟨d, n, e, hd1, hd2⟩ := T.last_of t hpos
      have hnx : t.next = d.app (.c (n + 1) e .z) := by rw [T.next, if_pos hk1, hd1, T.bump_app]
      have HX := Lib.hid hnx
      obtain ⟨be, oe, ce, p1, p2, p3, p4, p5⟩ := HT.out.pick (d := d) (k := d.cnt) hd1.symm rfl
      have hdc : (t.cnt - 1) * 2 = 2 * d.cnt := by omega
      have x1 : w3.cell? ⟨g, (t.cnt - 1) * 2, none⟩ = some (.int .i64 n) := by
        rw [Ho3.out.cellAt _ (by omega), hdc]; exact p1
      have f1 := Ho3.out.frozenAt ((t.cnt - 1) * 2)
      have hnb := HS.out
      rw [hd1] at hnb
      have hn1 := (T.nf_last hnb).1
      have hn2 := (T.nf_last hnb).2.1
      have Hd1 := Lib.hid hd1
      have Hdc := Lib.hid hdc
      have hge : 1 ≤ t.cnt := by omega
      clear p1 p2 p3 hd1 hdc hnb hnx hk1
      go_wp2_with fail
      have hst := Ho3.out.stored ((t.cnt - 1) * 2) (.int .i64 (n + 1))
      have hTn : Tm (w3.setCell ⟨g, (t.cnt - 1) * 2, none⟩ (.int .i64 (n + 1))) (some ⟨g, 0, none⟩) t.cnt t.next := by
        refine Tm.of_own hst.1 ?_ ?_
        · rw [HX.out, Hdc.out]
          have h3 := HT.out
          rw [Hd1.out] at h3
          have h4 := h3.set (m := n + 1)
          refine h4.below ((Hb13.out).trans ?_)
          exact (Below.refl _ _).setCell (p := ⟨g, 2 * d.cnt, none⟩) (by rw [Hg.out]; exact Nat.le_refl _) _
        · rw [HX.out]
          have := congrArg T.cnt Hd1.out
          rw [T.app_cnt] at this ⊢
          simpa [T.cnt] using this
      refine (fittingOrd_any _ t.cnt t.cnt t.next _ (by
        rw [HX.out, T.enc_len, T.app_body, T.body_c]
        have h5 := congrArg (fun t => t.body.length) Hd1.out
        simp only [T.app_body, T.body_c] at h5
        have := T.enc_len t
        have := HN.out
        simp [T.body] at h5 ⊢
        omega) hTn).mono ?_
      rintro ee w4 ⟨a', c', rfl, ho4, hb4⟩
      have hb5 : Below w.heap.size w w4 := Hb3.out.trans (((Below.refl _ _).setCell (p := ⟨g, (t.cnt - 1) * 2, none⟩) (by have := Hb1.out.size; have := Hg.out; show w.heap.size ≤ g; omega) _).trans (hb4.mono (by have := Hb3.out.size; simpa [World.setCell] using this)))
      have ho5 := Joins.ownsRow_le (base' := w.heap.size) ho4 (by have := Hb3.out.size; simpa [World.setCell] using this)
      have Hb5 := Lib.hid hb5
      have Ho5 := Lib.hid ho5
      clear hb4 hb5 ho4 ho5 hTn hst
      go_wp2_with fail
      go_ret2
      exact ⟨a', c', rfl, Ho5.out, Hb5.out⟩
    · have hkb : (t.kind == 1) = false := by simpa using hk1
      have hnx : t.next = t.app (.c 1 .z .z) := by rw [T.next, if_neg hk1]
      have HX := Lib.hid hnx
      have k4 : Calls Try.prog 23 #[.int .i64 0] w3 fun e w' => ∃ g3 c3, e = .returned (.slice (some ⟨g3, 0, none⟩) 1 c3) ∧ w'.ownsRow w3.heap.size 3 1 (.slice (some ⟨g3, 0, none⟩) 1 c3) 1 (ints [0]) ∧ Below w3.heap.size w3 w' := by
        refine (impl_OrdOf 0 w3 (by omega) (by omega)).mono ?_
        rintro ee w' ⟨a, c, rfl, h1, h2⟩
        obtain ⟨g3, c3, hv⟩ := Joins.ownsRow_form h1 (by decide)
        simp only [Value.slice.injEq] at hv
        obtain ⟨rfl, _, rfl⟩ := hv
        exact ⟨g3, c, rfl, h1, h2⟩
      have K4 := Lib.hid k4
      clear hnx hk1 k4
      go_wp2_with fail
      refine (K4.out).mono ?_
      rintro ee w4 ⟨g3, c3, rfl, ho4, hb4⟩
      have Hb4 := Lib.hid (Hb3.out.trans (hb4.mono Hb3.out.size))
      have Hb14 := Lib.hid (Hb13.out.trans (hb4.mono Hb13.out.size))
      have Ho4 := Lib.hid (ownsRow_below' Ho3.out hb4)
      have Ho3z := Lib.hid ho4
      have hg4 : w.heap.size ≤ g := by have := Hb1.out.size; have := Hg.out; omega
      have hsz4 : w.heap.size ≤ w4.heap.size := Hb4.out.size
      have hs14 : g ≤ w4.heap.size := by have := Hb14.out.size; have := Hg.out; omega
      clear ho4 hb4
      go_wp2_with (first
        | (at_builtin; refine wpList_append_own _ rfl (.tmp 23) (.tmp 26) 54 rfl g 63 i0 _ 2 32 Try.underlying54 hi hz0 hz1 hz2 rfl (by decide) _ t.cnt cs rfl (Ho4.out.alloc _) ⟨w4.heap.size, 0, none⟩ 1 1 [.int .i64 1, .slice (some ⟨g3, 0, none⟩) 1 c3] rfl rfl (cell_two_new _ _ _ _) (two_one _ _ rfl rfl) (by unfold maxLen; omega) (by omega) (by simp; omega) ?_; intro v5 w5 ho5 hg5 _))
      have hb5 : Below w1.heap.size w1 w5 := (Hb14.out.alloc Hb14.out.size _).grown hg5 (by have := Hb14.out.size; simp; omega) (fun k hk => by have := (Ho4.out.lt k hk).1; have := Hg.out; omega)
      have hz5 := kept_of Ho3z.out hg5 (own_ne Ho3z.out Ho4.out (by decide))
      have hat5 : At w5 g3 0 (T.enc .z) := by
        obtain ⟨b', off', he, hat'⟩ := (Sl.of_own hz5).2.2.2 (by omega)
        simp only [Option.some.injEq, Addr.mk.injEq] at he
        obtain ⟨rfl, rfl, _⟩ := he
        exact hat'
      have hc3 : 1 ≤ c3 ∧ c3 ≤ maxLen := ⟨(Sl.of_own hz5).2.1, (Sl.of_own hz5).2.2.1⟩
      obtain ⟨g5, c5, rfl⟩ := Joins.ownsRow_form ho5 (by omega)
      have hTn : Tm w5 (some ⟨g5, 0, none⟩) (t.cnt + 1) t.next := by
        refine Tm.of_own ho5 ?_ ?_
        · rw [HX.out]
          exact (HT.out.below hb5).snoc hat5 hc3.1 hc3.2
        · rw [HX.out, T.app_cnt]; rfl
      have Hb5 := Lib.hid (Hb1.out.trans (hb5.mono Hb1.out.size))
      have HTn := Lib.hid hTn
      clear hb5 hz5 hat5 hc3 hTn ho5 hg5
      go_wp2_with fail
      refine (fittingOrd_any _ (t.cnt + 1) c5 t.next _ (by
        rw [HX.out, T.enc_app_len]
        have := HN.out
        omega) HTn.out).mono ?_
      rintro ee w6 ⟨a', c', rfl, ho6, hb6⟩
      have Hb6 := Lib.hid (Hb5.out.trans (hb6.mono Hb5.out.size))
      have Ho6 := Lib.hid (Joins.ownsRow_le (base' := w.heap.size) ho6 Hb5.out.size)
      clear hb6 ho6
      go_wp2_with fail
      go_ret2
      exact ⟨a', c', rfl, Ho6.out, Hb6.out⟩
  · have k1 := Lib.hid (impl_valid ao len cap xs w h h1)
    have hr : T.nextRow xs = [] := by rw [T.nextRow, if_neg (by rw [h1]; simp)]
    have hr2 : T.nextOk xs = false := by rw [T.nextOk, h1]; rfl
    rw [hr, hr2]
    clear h1 hr hr2
    go_enter Try.func35, Try.ntmps35
    go_wp2_with fail
    refine (k1.out).mono ?_
    rintro ee w1 ⟨rfl, hb1⟩
    have Hb1 := Lib.hid hb1
    clear hb1
    go_wp2_with fail
    go_ret2
    exact ⟨none, 0, rfl, World.ownsRow_nil _ _ _ _, Hb1.out⟩

end Go.Proofs.Ythalogciiochfaa
