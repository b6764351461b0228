/- OrdBefore and OrdDepth: the model's answers. -/
import Derived.Test.YthalogciiochfaaBefore
import Derived.Test.YthalogciiochfaaNextS
namespace Go.Proofs.Ythalogciiochfaa
set_option maxRecDepth 100000
open Go.RowKit

theorem EC.front {w : World} {d r : T} {es : List Value} (h : EC w (d.app r) es) : EC w d (es.take d.cnt) := by
  induction d generalizing es with
  | z => simp [T.cnt, EC]
  | c k f q _ ih =>
    obtain ⟨b, off, cap, cs', rfl, h1, h2, h3, h4⟩ := h
    exact ⟨b, off, cap, cs'.take q.cnt, by simp [T.cnt], h1, h2, h3, ih h4⟩

theorem Ex.below {w w' : World} {ao : Option Addr} {n : Nat} {t : T} (h : Ex w ao n t) (hb : Below w.heap.size w w') : Ex w' ao n t := by
  obtain ⟨h1, es, h2, h3⟩ := h
  refine ⟨h1, es, h2.below hb, fun hp => ?_⟩
  obtain ⟨g, h4, h5, h6⟩ := h3 hp
  exact ⟨g, h4, Nat.lt_of_lt_of_le h5 hb.size, fun j hj => (hb.cell (p := ⟨g, j, none⟩) h5).trans (h6 j hj)⟩

theorem T.times_front (d : T) (r : T) : (d.app r).times.take d.cnt = d.times := by
  rw [T.times_app, List.take_left' (T.times_len d)]

set_option maxHeartbeats 2000000 in
theorem spec_OrdBefore (ao : Option Addr) (len cap : Nat) (xs : List Int) (w : World) (h : Sl w ao len cap xs) :
    Calls Try.prog 40 #[.slice ao len cap] w fun e w' => ∃ a' c', e = .returned (.tuple #[.slice a' (T.befRow xs).length c', .bool (T.befOk xs)]) ∧
      w'.ownsRow w.heap.size 3 1 (.slice a' (T.befRow xs).length c') (T.befRow xs).length (ints (T.befRow xs)) ∧ Below w.heap.size w w' := by
  have k1 := Lib.hid (spec_OrdKind ao len cap xs w h)
  by_cases hk : T.kindRow xs = 1
  · obtain ⟨h1, hk1⟩ := kind_row hk
    obtain ⟨b, off, t, rfl, rfl, hs, hos, hat, hn, hl, hp, hc, hm⟩ := h.valid h1
    rw [hos] at hk1
    have hr : T.befRow t.enc = t.less.enc := by rw [T.befRow, if_pos ⟨h1, by rw [hos]; exact hk1⟩, hos]
    have hr2 : T.befOk t.enc = true := by rw [T.befOk, h1, hos, hk1]; rfl
    rw [hr, hr2]
    rw [hk] at k1
    have HA := Lib.hid hat
    have HN := Lib.hid hn
    have HS := Lib.hid hs
    have hcl : t.cnt ≤ 60 := by have := T.cnt_le t; have := T.enc_len t; omega
    have hpos : 0 < t.cnt := by
      rcases Nat.eq_zero_or_pos t.cnt with h | h
      · rw [T.cnt_zero h] at hk1; simp [T.kind] at hk1
      · exact h
    obtain ⟨d, n, e, hd1, hd2⟩ := T.last_of t hpos
    have hls : t.less = if n = 1 then d else d.app (.c (n - 1) e .z) := by rw [hd1, T.less_app]
    have HLS := Lib.hid hls
    have hnb := hs
    rw [hd1] at hnb
    have hn1 := (T.nf_last hnb).1
    have hn2 := (T.nf_last hnb).2.1
    have Hd1 := Lib.hid hd1
    have hll : t.less.enc.length ≤ 1000000000000 := by have := T.less_len t; rw [T.enc_len]; have := T.enc_len t; omega
    have HLL := Lib.hid hll
    have hge : 1 ≤ t.cnt := by omega
    clear h h1 hos hs hat hn hr hr2 hk hk1 hd1 hnb hls hll
    go_enter Try.func40, Try.ntmps40
    go_wp2_with fail
    refine (k1.out).mono ?_
    rintro ee w1 ⟨rfl, hb1⟩
    have Hb1 := Lib.hid hb1
    have k2 := Lib.hid (l1Terms_old b off len cap t.enc t w1 HN.out.symm (by omega) hc hm (HA.out.below hb1 (HA.out.lt (T.enc_ne t))) rfl)
    clear hb1
    go_wp2_with fail
    refine (k2.out).mono ?_
    rintro ee w2 ⟨v1, v2, es, rfl, ho1, ho2, hE, _, hb2⟩
    obtain ⟨g1, c1, rfl⟩ := Joins.ownsRow_form ho1 hpos
    obtain ⟨g2, c2, rfl⟩ := Joins.ownsRow_form ho2 hpos
    have Hb2 := Lib.hid (Hb1.out.trans (hb2.mono Hb1.out.size))
    have Hb12 := Lib.hid hb2
    have hdc : t.cnt - 1 = d.cnt := by omega
    have x1 : w2.cell? ⟨g1, t.cnt - 1, none⟩ = some (.int .i64 n) := by
      rw [ho1.cellAt _ (by omega), hdc, List.getElem?_map, T.times_pick Hd1.out.symm rfl]; rfl
    have f1 := ho1.frozenAt (t.cnt - 1)
    have hcc1 : t.cnt ≤ c1 := (Sl.of_own (show w2.ownsRow w1.heap.size 3 1 (.slice (some ⟨g1, 0, none⟩) t.cnt c1) t.cnt (ints t.times) from ho1)).2.1
    have hcc2 : t.cnt ≤ c2 ∧ c2 ≤ maxLen := by
      rcases ho2.2 with ⟨hq, _⟩ | ⟨g, c, cur, hq, _, _, hq2, hq3, _⟩
      · simp at hq
      · simp at hq
        obtain ⟨_, rfl⟩ := hq
        exact ⟨hq2, hq3⟩
    have hcm1 : c1 ≤ maxLen := (Sl.of_own (show w2.ownsRow w1.heap.size 3 1 (.slice (some ⟨g1, 0, none⟩) t.cnt c1) t.cnt (ints t.times) from ho1)).2.2.1
    have hcc3 := hcc2.1
    have Hdc := Lib.hid hdc
    have Ho1 := Lib.hid ho1
    have Ho2 := Lib.hid ho2
    have HE := Lib.hid hE
    clear hdc hb2 ho1 ho2 hE hcc2
    by_cases hn0 : n = 1
    · have hls2 : t.less = d := by rw [HLS.out, if_pos hn0]
      have HL2 := Lib.hid hls2
      have hz : ((n : Int) == 1) = true := by rw [hn0]; rfl
      clear hls2 hn0
      have hslt : Sl w2 (some ⟨g1, 0, none⟩) (t.cnt - 1) c1 t.less.times := by
        have h2 := Sl.of_own (show w2.ownsRow w1.heap.size 3 1 (.slice (some ⟨g1, 0, none⟩) t.cnt c1) t.cnt (ints t.times) from Ho1.out)
        obtain ⟨q1, q2, q3, q4⟩ := h2
        obtain ⟨b', o', q5, q6⟩ := q4 (by omega)
        have e1 : t.less.times = t.times.take (t.cnt - 1) := by rw [HL2.out, Hd1.out, ← T.times_front d (.c n e .z), ← Hd1.out, Hdc.out]
        rw [e1]
        exact ⟨by rw [List.length_take, T.times_len]; omega, by omega, q3, fun _ => ⟨b', o', q5, q6.take _⟩⟩
      have hex : Ex w2 (some ⟨g2, 0, none⟩) (t.cnt - 1) t.less := by
        rw [HL2.out, Hdc.out]
        have h3 := HE.out
        rw [Hd1.out] at h3
        refine ⟨rfl, es.take d.cnt, (h3.front).below Hb12.out, fun hp => ⟨g2, rfl, (Ho2.out.lt g2 rfl).2, fun j hj => ?_⟩⟩
        have := Hdc.out
        rw [Ho2.out.cellAt j (by omega), List.getElem?_take, if_pos hj]
      have hdr : Below w2.heap.size w2 w2.drew := (Below.refl _ _).drew
      have k4 := Lib.hid (l1Make_any (some ⟨g1, 0, none⟩) (some ⟨g2, 0, none⟩) (t.cnt - 1) c1 c2 t.less w2.drew HLL.out (hex.below hdr) (hslt.below hdr))
      clear hslt hex hdr
      go_wp2_with fail
      have e1 : ((t.cnt : Int) - 1) = ((t.cnt - 1 : Nat) : Int) := by omega
      have q1 : t.cnt - 1 ≤ c1 := by omega
      have q2 : t.cnt - 1 ≤ c2 := by omega
      have q3 : ((t.cnt - 1 : Nat) : Int) ≤ c1 := by omega
      have q4 : ((t.cnt - 1 : Nat) : Int) ≤ c2 := by omega
      go_still_tail 6, (by kernel_rfl)
      change wpList _ _ _ _ _ w2.drew
      go_wp2_with fail
      refine (k4.out).mono ?_
      rintro ee w5 ⟨a5, c5, rfl, ho5, hb5⟩
      have Hb5 := Lib.hid (Hb2.out.drew.trans (hb5.mono Hb2.out.size))
      have Ho5 := Lib.hid (Joins.ownsRow_le (base' := w.heap.size) ho5 (show w.heap.size ≤ w2.drew.heap.size from Hb2.out.size))
      clear hb5 ho5
      go_wp2_with fail
      go_ret2
      exact ⟨a5, c5, rfl, Ho5.out, Hb5.out⟩
    · have hls2 : t.less = d.app (.c (n - 1) e .z) := by rw [HLS.out, if_neg hn0]
      have HL2 := Lib.hid hls2
      have hz : ((n : Int) == 1) = false := by simpa using hn0
      clear hls2 hn0
      have hst := Ho1.out.stored (t.cnt - 1) (.int .i64 (n - 1))
      have hbs : Below w1.heap.size w1 (w2.setCell ⟨g1, t.cnt - 1, none⟩ (.int .i64 (n - 1))) := Hb12.out.setCell (p := ⟨g1, t.cnt - 1, none⟩) (Ho1.out.lt g1 rfl).1 _
      have hslt : Sl (w2.setCell ⟨g1, t.cnt - 1, none⟩ (.int .i64 (n - 1))) (some ⟨g1, 0, none⟩) t.cnt c1 t.less.times := by
        have h2 := hst.1
        rw [show (t.times.map (.int .i64)) = ints t.times from rfl, Hdc.out] at h2
        have h3 : (ints t.times).set d.cnt (.int .i64 (n - 1)) = ints t.less.times := by rw [HL2.out, Hd1.out, T.times_set]
        rw [h3] at h2
        rw [Hdc.out]
        exact Sl.of_own h2
      have hex : Ex (w2.setCell ⟨g1, t.cnt - 1, none⟩ (.int .i64 (n - 1))) (some ⟨g2, 0, none⟩) t.cnt t.less := by
        have h2 := Ho2.out.kept hst.2 (own_ne Ho2.out Ho1.out (by decide))
        refine Ex.of_own h2 ?_ ?_
        · rw [HL2.out]
          have h3 := HE.out
          rw [Hd1.out] at h3
          exact (h3.renum).below hbs
        · rw [HL2.out]
          have := congrArg T.cnt Hd1.out
          rw [T.app_cnt] at this ⊢
          simpa [T.cnt] using this
      have k4 := Lib.hid (l1Make_any (some ⟨g1, 0, none⟩) (some ⟨g2, 0, none⟩) t.cnt c1 c2 t.less _ HLL.out hex hslt)
      have Hbs := Lib.hid (Hb1.out.trans (hbs.mono Hb1.out.size))
      clear hst hbs hslt hex
      go_wp2_with fail
      refine (k4.out).mono ?_
      rintro ee w5 ⟨a5, c5, rfl, ho5, hb5⟩
      have Hb5 := Lib.hid (Hbs.out.trans (hb5.mono Hbs.out.size))
      have Ho5 := Lib.hid (Joins.ownsRow_le (base' := w.heap.size) ho5 Hbs.out.size)
      clear hb5 ho5
      go_wp2_with fail
      go_ret2
      exact ⟨a5, c5, rfl, Ho5.out, Hb5.out⟩
  · obtain ⟨hr, hr2⟩ := bef_bad hk
    rw [hr, hr2]
    have hkb : (T.kindRow xs != 1) = true := by simpa using hk
    clear h hk hr hr2
    go_enter Try.func40, Try.ntmps40
    go_wp2_with fail
    refine (k1.out).mono ?_
    rintro ee w1 ⟨rfl, hb1⟩
    have Hb1 := Lib.hid hb1
    clear hb1
    go_wp2_with fail
    go_ret2
    exact ⟨_, 0, rfl, World.ownsRow_lit w1 #[] 0 (by have := Hb1.out.size; omega) (by simp [maxLen]) rfl, Hb1.out.alloc (by have := Hb1.out.size; omega) _⟩

end Go.Proofs.Ythalogciiochfaa
