/- OrdBefore of the program; OrdDepth of the program. -/
import Derived.Test.YtobookpaadpolaaNext
namespace Go.Proofs.Ytobookpaadpolaa
open Go.RowKit

theorem TC.front {w : World} {d r : T} {cs : List Value} (h : TC w (d.app r) cs) : TC w d (cs.take (2 * d.cnt)) := by
  induction d generalizing cs with
  | z => simp [T.cnt, TC]
  | c k f q _ ih =>
    obtain ⟨b, off, cap, cs', rfl, h1, h2, h3, h4⟩ := h
    refine ⟨b, off, cap, cs'.take (2 * q.cnt), ?_, h1, h2, h3, ih h4⟩
    rw [show 2 * (T.c k f q).cnt = 2 * q.cnt + 2 by simp [T.cnt]; omega]
    rfl

theorem kind_row {xs : List Int} (h : T.kindRow xs = 1) : T.vldB xs = true ∧ (T.of xs).kind = 1 := by
  unfold T.kindRow at h
  split at h
  · rename_i hv; exact ⟨hv, h⟩
  · omega

theorem kindRow_vals (xs : List Int) : T.kindRow xs = -1 ∨ T.kindRow xs = 0 ∨ T.kindRow xs = 1 ∨ T.kindRow xs = 2 := by
  unfold T.kindRow
  split
  · right
    rcases Nat.eq_zero_or_pos (T.of xs).cnt with h | h
    · rw [T.cnt_zero h]; left; rfl
    · obtain ⟨d, n, e, h1, _⟩ := T.last_of _ h
      rw [h1, T.kind_app]
      split <;> simp
  · left; rfl

theorem bef_bad {xs : List Int} (h : ¬ T.kindRow xs = 1) : T.befRow xs = [] ∧ T.befOk xs = false := by
  have h2 : ¬ (T.vldB xs = true ∧ (T.of xs).kind = 1) := by
    rintro ⟨h3, h4⟩
    exact h (by rw [T.kindRow, if_pos h3, h4])
  refine ⟨by rw [T.befRow, if_neg h2], ?_⟩
  rw [T.befOk]
  cases hv : T.vldB xs with
  | false => rfl
  | true => simp; intro hk; exact h2 ⟨hv, hk⟩

set_option maxHeartbeats 2000000 in
theorem impl_OrdBefore (ao : Option Addr) (len cap : Nat) (xs : List Int) (w : World) (h : Sl w ao len cap xs) :
    Calls Try.prog 30 #[.slice ao len cap] w fun e w' => ∃ a' c', e = .returned (.tuple #[.slice a' (T.befRow xs).length c', .bool (T.befOk xs)]) ∧
      w'.ownsRow w.heap.size 3 1 (.slice a' (T.befRow xs).length c') (T.befRow xs).length (ints (T.befRow xs)) ∧ Below w.heap.size w w' := by
  have k1 := Lib.hid (impl_OrdKind ao len cap xs w h)
  by_cases hk : T.kindRow xs = 1
  · obtain ⟨h1, hk1⟩ := kind_row hk
    obtain ⟨b, off, t, rfl, rfl, hs, hos, hat, hn, hl, hp, hc, hm⟩ := h.valid h1
    rw [hos] at hk1
    have hr : T.befRow t.enc = t.less.enc := by rw [T.befRow, if_pos ⟨h1, by rw [hos]; exact hk1⟩, hos]
    have hr2 : T.befOk t.enc = true := by rw [T.befOk, h1, hos, hk1]; rfl
    rw [hr, hr2]
    rw [hk] at k1
    have HA := Lib.hid hat
    have HN := Lib.hid hn
    have HS := Lib.hid hs
    have hcl : t.cnt ≤ 60 := by have := T.cnt_le t; have := T.enc_len t; omega
    have hpos : 0 < t.cnt := by
      rcases Nat.eq_zero_or_pos t.cnt with h | h
      · rw [T.cnt_zero h] at hk1; simp [T.kind] at hk1
      · exact h
    obtain ⟨d, n, e, hd1, hd2⟩ := T.last_of t hpos
    have hls : t.less = if n = 1 then d else d.app (.c (n - 1) e .z) := by rw [hd1, T.less_app]
    have HLS := Lib.hid hls
    have hnb := hs
    rw [hd1] at hnb
    have hn1 := (T.nf_last hnb).1
    have hn2 := (T.nf_last hnb).2.1
    have Hd1 := Lib.hid hd1
    have hll : t.less.enc.length ≤ 1000000000000 := by have := T.less_len t; rw [T.enc_len]; have := T.enc_len t; omega
    have HLL := Lib.hid hll
    have hge : 1 ≤ t.cnt := by omega
    clear h h1 hos hs hat hn hr hr2 hk hk1 hd1 hnb hls hll
    go_enter Try.func30, Try.ntmps30
    go_wp2_with fail
    refine (k1.out).mono ?_
    rintro ee w1 ⟨rfl, hb1⟩
    have Hb1 := Lib.hid hb1
    have k2 := Lib.hid (termsOf_old b off len cap t.enc t w1 HN.out.symm (by omega) hc hm (HA.out.below hb1 (HA.out.lt (T.enc_ne t))) rfl)
    clear hb1
    go_wp2_with fail
    refine (k2.out).mono ?_
    rintro ee w2 ⟨cs, rfl, ho, hT, hb2⟩
    have Hb2 := Lib.hid (Hb1.out.trans (hb2.mono Hb1.out.size))
    have Hb12 := Lib.hid hb2
    obtain ⟨g, hg⟩ : ∃ g, g = w1.heap.size := ⟨_, rfl⟩
    rw [← hg] at ho ⊢
    have hgw : w.heap.size ≤ g := by have := Hb1.out.size; omega
    have Hg := Lib.hid hg
    have HT := Lib.hid hT
    obtain ⟨be, oe, ce, p1, p2, p3, p4, p5⟩ := hT.pick (d := d) (k := d.cnt) Hd1.out.symm rfl
    have hdc : (t.cnt - 1) * 2 = 2 * d.cnt := by omega
    have x1 : w2.cell? ⟨g, (t.cnt - 1) * 2, none⟩ = some (.int .i64 n) := by
      rw [ho.cellAt _ (by omega), hdc]; exact p1
    have f1 := ho.frozenAt ((t.cnt - 1) * 2)
    have Hdc := Lib.hid hdc
    have hst := ho.stored ((t.cnt - 1) * 2) (.int .i64 (n - 1))
    have hbs : Below w1.heap.size w1 (w2.setCell ⟨g, (t.cnt - 1) * 2, none⟩ (.int .i64 (n - 1))) := Hb12.out.setCell (p := ⟨g, (t.cnt - 1) * 2, none⟩) (by show w1.heap.size ≤ g; omega) _
    have Hst := Lib.hid hst
    have Hbs := Lib.hid hbs
    have y1 : (w2.setCell ⟨g, (t.cnt - 1) * 2, none⟩ (.int .i64 (n - 1))).cell? ⟨g, (t.cnt - 1) * 2, none⟩ = some (.int .i64 (n - 1)) := World.cell?_setCell_same _ _ _ x1
    have Hcnt := Lib.hid (show t.cnt = d.cnt + 1 by omega)
    clear p1 p2 p3 hdc hb2 hg ho hT hst hbs
    by_cases hn0 : n = 1
    · have hls2 : t.less = d := by rw [HLS.out, if_pos hn0]
      have HL2 := Lib.hid hls2
      have hz : ((n - 1 : Int) == 0) = true := by rw [hn0]; rfl
      have Hn0 := Lib.hid hn0
      clear hls2 hn0
      have hTn : Tm (w2.setCell ⟨g, (t.cnt - 1) * 2, none⟩ (.int .i64 (n - 1))) (some ⟨g, 0, none⟩) (t.cnt - 1) t.less := by
        rw [HL2.out]
        have h3 := HT.out
        rw [Hd1.out] at h3
        refine ⟨by have := Hcnt.out; omega, cs.take (2 * d.cnt), (h3.front).below Hbs.out, fun hp => ⟨g, rfl, (Hst.out.1.lt g rfl).2, fun j hj => ?_⟩⟩
        have := Hcnt.out
        rw [Hst.out.1.cellAt j (by omega), List.getElem?_take, if_pos (by omega), List.getElem?_set_ne (by have := Hdc.out; omega)]
      have HTn := Lib.hid hTn
      clear hTn
      go_wp2_with fail
      refine (ordOfTerms_any (some ⟨g, 0, none⟩) (t.cnt - 1) t.cnt t.less _ HLL.out HTn.out).mono ?_
      rintro ee w4 ⟨a', c', rfl, ho4, hb4⟩
      have hb5 : Below w.heap.size w w4 := Hb1.out.trans ((Hbs.out.mono Hb1.out.size).trans (hb4.mono (by have := Hb2.out.size; simpa [World.setCell] using this)))
      have ho5 := Joins.ownsRow_le (base' := w.heap.size) ho4 (by have := Hb2.out.size; simpa [World.setCell] using this)
      have Hb5 := Lib.hid hb5
      have Ho5 := Lib.hid ho5
      clear hb4 hb5 ho4 ho5
      go_wp2_with fail
      go_ret2
      exact ⟨a', c', rfl, Ho5.out, Hb5.out⟩
    · have hls2 : t.less = d.app (.c (n - 1) e .z) := by rw [HLS.out, if_neg hn0]
      have HL2 := Lib.hid hls2
      have hz : ((n - 1 : Int) == 0) = false := by simp; omega
      clear hls2 hn0
      have hTn : Tm (w2.setCell ⟨g, (t.cnt - 1) * 2, none⟩ (.int .i64 (n - 1))) (some ⟨g, 0, none⟩) t.cnt t.less := by
        rw [HL2.out]
        have h3 := HT.out
        rw [Hd1.out] at h3
        refine Tm.of_own Hst.out.1 ?_ ?_
        · rw [Hdc.out]
          have h6 := (h3.set (m := n - 1)).below Hbs.out
          rw [Hdc.out] at h6
          exact h6
        · rw [T.app_cnt]; exact Hcnt.out
      have HTn := Lib.hid hTn
      clear hTn
      go_wp2_with fail
      refine (ordOfTerms_any (some ⟨g, 0, none⟩) t.cnt t.cnt t.less _ HLL.out HTn.out).mono ?_
      rintro ee w4 ⟨a', c', rfl, ho4, hb4⟩
      have hb5 : Below w.heap.size w w4 := Hb1.out.trans ((Hbs.out.mono Hb1.out.size).trans (hb4.mono (by have := Hb2.out.size; simpa [World.setCell] using this)))
      have ho5 := Joins.ownsRow_le (base' := w.heap.size) ho4 (by have := Hb2.out.size; simpa [World.setCell] using this)
      have Hb5 := Lib.hid hb5
      have Ho5 := Lib.hid ho5
      clear hb4 hb5 ho4 ho5
      go_wp2_with fail
      go_ret2
      exact ⟨a', c', rfl, Ho5.out, Hb5.out⟩
  · obtain ⟨hr, hr2⟩ := bef_bad hk
    rw [hr, hr2]
    have hkb : (T.kindRow xs != 1) = true := by simpa using hk
    clear h hk hr hr2
    go_enter Try.func30, Try.ntmps30
    go_wp2_with fail
    refine (k1.out).mono ?_
    rintro ee w1 ⟨rfl, hb1⟩
    have Hb1 := Lib.hid hb1
    clear hb1
    go_wp2_with fail
    go_ret2
    exact ⟨none, 0, rfl, World.ownsRow_nil _ _ _ _, Hb1.out⟩

theorem T.depth_le (t : T) : t.depth ≤ t.body.length := by
  induction t with
  | z => simp [T.depth]
  | c n e r ih _ => rw [T.body_c]; simp [T.depth, T.enc]; omega

theorem impl_OrdDepth (ao : Option Addr) (len cap : Nat) (xs : List Int) (w : World) (h : Sl w ao len cap xs) :
    Calls Try.prog 26 #[.slice ao len cap] w fun e w' => e = .returned (.int .i64 (T.depRow xs)) ∧ Below w.heap.size w w' := by
  rcases vld_tf xs with h1 | h1
  · have k1 := Lib.hid (impl_valid ao len cap xs w h h1)
    obtain ⟨b, off, t, rfl, rfl, hs, hos, hat, hn, hl, hp, hc, hm⟩ := h.valid h1
    have hr : T.depRow t.enc = t.depth := by rw [T.depRow, if_pos h1, hos]
    rw [hr]
    have HA := Lib.hid hat
    have HN := Lib.hid hn
    have hdl : t.depth ≤ 60 := by have := T.depth_le t; have := T.enc_len t; omega
    clear h1 hos hs hat hn hr
    go_enter Try.func26, Try.ntmps26
    go_wp2_with fail
    refine (k1.out).mono ?_
    rintro ee w1 ⟨rfl, hb1⟩
    have Hb1 := Lib.hid hb1
    have HA1 := Lib.hid (HA.out.below hb1 (HA.out.lt (T.enc_ne t)))
    clear hb1
    go_wp2_with fail
    go_loop [3, 4] (fun i j => ∃ (a k : Nat) (e : T) (rest : List Int), k ≤ t.depth ∧ Hid (t.enc.drop a = e.enc ++ rest ∧ k + e.depth = t.depth) ∧ i = .int .i64 k ∧ j = .int .i64 a) (fun _ j => len - (intOf j).toNat)
    case atStart => exact ⟨0, 0, t, [], by omega, ⟨by simp, by omega⟩, rfl, rfl⟩
    case round =>
      obtain ⟨a, k, e, rest, hk, HU, rfl, rfl⟩ := hrel
      obtain ⟨h2, h3⟩ := HU.out
      have hx := HA1.out.get (show t.enc.drop a = (e.cnt : Int) :: (e.body ++ rest) from h2)
      have hal := drop_len h2 (by simp [T.enc])
      rw [← HN.out] at hal
      simp at hal
      have hel := T.enc_len e
      have hlt : a < len := by omega
      cases e with
      | z =>
        have h0 : ((T.z.cnt : Nat) : Int) = 0 := rfl
        clear h2 hal hel
        have hkd : k = t.depth := by simpa [T.depth] using h3
        subst hkd
        clear h3
        go_wp2_with fail
        go_ret
        exact ⟨rfl, Hb1.out⟩
      | c n f r =>
        have hpos : (0 : Int) < ((T.c n f r).cnt : Nat) := by simp [T.cnt]
        have hkl : k + 1 ≤ t.depth := by simp [T.depth] at h3; omega
        have h4 : t.enc.drop (a + 2) = f.enc ++ (r.body ++ rest) := by
          have h5 : t.enc.drop a = ((T.c n f r).cnt : Int) :: n :: (f.enc ++ (r.body ++ rest)) := by
            rw [h2]; simp [T.enc, T.body]
          exact drop_more (drop_more h5)
        have H4 := Lib.hid h4
        have H3 := Lib.hid h3
        clear h2 h3 h4 hal hel
        go_wp2_with fail
        go_round
        case rel => exact ⟨a + 2, k + 1, f, r.body ++ rest, hkl, ⟨H4.out, by have := H3.out; simp [T.depth] at this; omega⟩, by go_num, by go_num⟩
        case measure => simp [intOf]; omega
  · have k1 := Lib.hid (impl_valid ao len cap xs w h h1)
    have hr : T.depRow xs = -1 := by rw [T.depRow, if_neg (by rw [h1]; simp)]
    rw [hr]
    clear h1 hr
    go_enter Try.func26, Try.ntmps26
    go_wp2_with fail
    refine (k1.out).mono ?_
    rintro ee w1 ⟨rfl, hb1⟩
    have Hb1 := Lib.hid hb1
    clear hb1
    go_wp2_with fail
    go_ret
    exact ⟨rfl, Hb1.out⟩

end Go.Proofs.Ytobookpaadpolaa
