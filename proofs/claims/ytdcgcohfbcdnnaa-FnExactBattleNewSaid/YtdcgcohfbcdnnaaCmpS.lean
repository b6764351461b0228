/- The model's l1Compare returns the order of the two ordinals. -/
import Derived.Test.YtdcgcohfbcdnnaaCmpRead
namespace Go.Proofs.Ytdcgcohfbcdnnaa
set_option maxRecDepth 100000
open Go.RowKit

theorem own_form {w : World} {B e n : Nat} {v : Value} {xs : List Value} (h : w.ownsRow B e 1 v n xs) :
    ∃ ao cap, v = .slice ao n cap ∧ (0 < n → ∃ g, ao = some ⟨g, 0, none⟩ ∧ g < w.heap.size ∧ ∀ j, j < n → w.cell? ⟨g, j, none⟩ = xs[j]?) := by
  rcases Joins.ownsRow_forms h with ⟨rfl, rfl⟩ | ⟨g, cap, rfl⟩
  · exact ⟨none, 0, rfl, fun h => by omega⟩
  · refine ⟨some ⟨g, 0, none⟩, cap, rfl, fun _ => ⟨g, rfl, (h.lt g rfl).2, fun j hj => h.cellAt j (by omega)⟩⟩

set_option maxHeartbeats 2000000 in
theorem l1Compare_any (N : Nat) : ∀ (b1 off1 cap1 b2 off2 cap2 n1 n2 : Nat) (s t : T) (w : World), s.body.length < N → n1 = s.enc.length → n2 = t.enc.length → n1 ≤ 1000000000000 → n2 ≤ 1000000000000 → n1 ≤ cap1 → cap1 ≤ maxLen → n2 ≤ cap2 → cap2 ≤ maxLen →
    At w b1 off1 s.enc → At w b2 off2 t.enc →
    Calls Try.prog 101 #[.slice (some ⟨b1, off1, none⟩) n1 cap1, .slice (some ⟨b2, off2, none⟩) n2 cap2] w fun e w' => e = .returned (.int .i64 (s.cmp t)) ∧ Below w.heap.size w w' := by
  induction N with
  | zero => intro b1 off1 cap1 b2 off2 cap2 n1 n2 s t w hN; omega
  | succ N ih =>
    intro b1 off1 cap1 b2 off2 cap2 n1 n2 s t w hN hn1 hn2 hl1 hl2 hc1 hm1 hc2 hm2 ha1 ha2
    have HN1 := Lib.hid hn1
    have HN2 := Lib.hid hn2
    clear hn1 hn2
    have c1 := Lib.hid (l1Terms_any b1 off1 n1 cap1 s.enc s w HN1.out.symm hl1 hc1 hm1 ha1 rfl)
    go_enter Try.func101, Try.ntmps101
    go_wp2_with fail
    refine (c1.out).mono ?_
    rintro ee w1 ⟨v1, v2, es1, rfl, ho1, ho2, hT1, _, hb1⟩
    have c2 := Lib.hid (l1Terms_any b2 off2 n2 cap2 t.enc t w1 HN2.out.symm hl2 hc2 hm2 (ha2.below hb1 (ha2.lt (T.enc_ne t))) rfl)
    have Hb1 := Lib.hid hb1
    clear hb1
    go_wp2_with fail
    refine (c2.out).mono ?_
    rintro ee w2 ⟨v3, v4, es2, rfl, ho3, ho4, hT2, _, hb2⟩
    have ho1 := ownsRow_below' ho1 hb2
    have ho2 := ownsRow_below' ho2 hb2
    have hT1 := hT1.below hb2
    have hcl1 : s.cnt ≤ 1000000000000 := by have := T.cnt_le s; have := T.enc_len s; have := HN1.out; omega
    have hcl2 : t.cnt ≤ 1000000000000 := by have := T.cnt_le t; have := T.enc_len t; have := HN2.out; omega
    obtain ⟨a1, k1, rfl, o1⟩ := own_form ho1
    obtain ⟨a2, k2, rfl, o2⟩ := own_form ho2
    obtain ⟨a3, k3, rfl, o3⟩ := own_form ho3
    obtain ⟨a4, k4, rfl, o4⟩ := own_form ho4
    have O1 := Lib.hid o1
    have O2 := Lib.hid o2
    have O3 := Lib.hid o3
    have O4 := Lib.hid o4
    have Hb2 := Lib.hid hb2
    clear hb2 ho1 ho2 ho3 ho4 o1 o2 o3 o4
    go_wp2_with fail
    go_loopw [9] (fun i wr => ∃ (k : Nat) (d1 u1 d2 u2 : T), k ≤ s.cnt ∧ k ≤ t.cnt ∧ Hid (d1.app u1 = s ∧ d2.app u2 = t ∧ d1.cnt = k ∧ d2.cnt = k ∧ s.cmp t = u1.cmp u2) ∧ i = .int .i64 k ∧ Below w2.heap.size w2 wr) (fun i _ => s.cnt - (intOf i).toNat)
    case atStart => exact ⟨0, .z, s, .z, t, by omega, by omega, ⟨rfl, rfl, rfl, rfl, rfl⟩, rfl, Below.refl _ _⟩
    case round =>
      obtain ⟨k, d1, u1, d2, u2, hk1, hk2, HU, rfl, hbr⟩ := hrel
      obtain ⟨h1, h2, h3, h4, h5⟩ := HU.out
      by_cases hz : u1 = .z ∨ u2 = .z
      · have hcs : s.cnt = k + u1.cnt := by rw [← h1, T.app_cnt, h3]
        have hct : t.cnt = k + u2.cnt := by rw [← h2, T.app_cnt, h4]
        have hz2 : u1.cnt = 0 ∨ u2.cnt = 0 := by rcases hz with rfl | rfl <;> simp [T.cnt]
        have hfin := T.cmp_len u1 u2 hz
        have hfin1 : s.cnt < t.cnt → s.cmp t = -1 := fun h => by rw [h5, hfin, if_pos (by omega)]
        have hfin2 : t.cnt < s.cnt → s.cmp t = 1 := fun h => by rw [h5, hfin, if_neg (by omega), if_pos (by omega)]
        have hfin3 : s.cnt = t.cnt → s.cmp t = 0 := fun h => by rw [h5, hfin, if_neg (by omega), if_neg (by omega)]
        have F1 := Lib.hid hfin1
        have F2 := Lib.hid hfin2
        have F3 := Lib.hid hfin3
        have hge1 : s.cnt ≤ k ∨ t.cnt ≤ k := by omega
        have Hb := Lib.hid (Hb1.out.trans ((Hb2.out.trans (hbr.mono (by have := Hb2.out.size; omega))).mono Hb1.out.size))
        clear h1 h2 h3 h4 h5 hz hcs hct hz2 hfin hfin1 hfin2 hfin3 hbr
        by_cases hs : s.cnt ≤ k
        · by_cases hst : s.cnt < t.cnt
          · go_wp2_with fail
            go_ret
            exact ⟨ret_int (F1.out hst).symm, Hb.out⟩
          · have hst2 : s.cnt = t.cnt := by omega
            have hst3 : t.cnt ≤ s.cnt := by omega
            have hst4 : s.cnt ≤ t.cnt := by omega
            have H4 := Lib.hid hst2
            clear hst2
            go_wp2_with fail
            go_ret
            exact ⟨ret_int (F3.out H4.out).symm, Hb.out⟩
        · have hst : t.cnt < s.cnt := by omega
          have hst0 : t.cnt ≤ k := by omega
          go_wp2_with fail
          go_ret
          exact ⟨ret_int (F2.out hst).symm, Hb.out⟩
      · obtain ⟨n, e, r, rfl⟩ : ∃ n e r, u1 = .c n e r := by
          cases u1 with
          | z => exact absurd (.inl rfl) hz
          | c n e r => exact ⟨n, e, r, rfl⟩
        obtain ⟨m, f, q, rfl⟩ : ∃ n e r, u2 = .c n e r := by
          cases u2 with
          | z => exact absurd (.inr rfl) hz
          | c n e r => exact ⟨n, e, r, rfl⟩
        have hcs : k + 1 + r.cnt = s.cnt := by rw [← h1, T.app_cnt, h3]; simp [T.cnt]; omega
        have hct : k + 1 + q.cnt = t.cnt := by rw [← h2, T.app_cnt, h4]; simp [T.cnt]; omega
        have hks : k < s.cnt := by omega
        have hkt : k < t.cnt := by omega
        obtain ⟨g1, rfl, hlt1, r1⟩ := O1.out (by omega)
        obtain ⟨g2, rfl, hlt2, r2⟩ := O2.out (by omega)
        obtain ⟨g3, rfl, hlt3, r3⟩ := O3.out (by omega)
        obtain ⟨g4, rfl, hlt4, r4⟩ := O4.out (by omega)
        obtain ⟨be, oe, ce, p2, p3, p4, p5⟩ := hT1.pick h1 h3
        obtain ⟨bf, of, cf, q2, q3, q4, q5⟩ := hT2.pick h2 h4
        have x1 : wr.cell? ⟨g1, k, none⟩ = some (.int .i64 n) := (hbr.cell (p := ⟨g1, k, none⟩) hlt1).trans (by rw [r1 k hks, List.getElem?_map, T.times_pick h1 h3]; rfl)
        have x2 : wr.cell? ⟨g2, k, none⟩ = some (.slice (some ⟨be, oe, none⟩) e.enc.length ce) := (hbr.cell (p := ⟨g2, k, none⟩) hlt2).trans (by rw [r2 k hks]; exact p2)
        have y1 : wr.cell? ⟨g3, k, none⟩ = some (.int .i64 m) := (hbr.cell (p := ⟨g3, k, none⟩) hlt3).trans (by rw [r3 k hkt, List.getElem?_map, T.times_pick h2 h4]; rfl)
        have y2 : wr.cell? ⟨g4, k, none⟩ = some (.slice (some ⟨bf, of, none⟩) f.enc.length cf) := (hbr.cell (p := ⟨g4, k, none⟩) hlt4).trans (by rw [r4 k hkt]; exact q2)
        have hbw : Below wr.heap.size wr wr.drew := (Below.refl _ _).drew
        have hes : e.body.length < N := by
          have h6 := congrArg (fun t => t.body.length) h1
          rw [T.app_body, T.body_c] at h6
          simp [T.enc] at h6
          omega
        have hel : e.enc.length ≤ 1000000000000 := by
          have h6 := congrArg (fun t => t.body.length) h1
          rw [T.app_body, T.body_c] at h6
          simp [T.enc] at h6
          have := T.enc_len s
          have := HN1.out
          rw [T.enc_len]
          omega
        have hfl : f.enc.length ≤ 1000000000000 := by
          have h6 := congrArg (fun t => t.body.length) h2
          rw [T.app_body, T.body_c] at h6
          simp [T.enc] at h6
          have := T.enc_len t
          have := HN2.out
          rw [T.enc_len]
          omega
        have Hat1 := Lib.hid (p3.below hbr (p3.lt (T.enc_ne e)))
        have Hat2 := Lib.hid (q3.below hbr (q3.lt (T.enc_ne f)))
        have ih2 := fun w' (hw : Below wr.heap.size wr w') => ih be oe ce bf of cf e.enc.length f.enc.length e f w' hes rfl rfl hel hfl p4 p5 q4 q5 (Hat1.out.below hw (Hat1.out.lt (T.enc_ne e))) (Hat2.out.below hw (Hat2.out.lt (T.enc_ne f)))
        have IH2 := Lib.hid ih2
        have HB := Lib.hid hbr
        have Hcs := Lib.hid hcs
        have Hct := Lib.hid hct
        clear ih2 h1 h2 h3 h4 h5 hz hcs hct p2 p3 q2 q3 hbr r1 r2 r3 r4
        go_wp2_with fail
        go_still_tail 8, (by kernel_rfl)
        change wpList _ _ _ _ _ wr.drew
        go_wp2_with fail
        refine (IH2.out _ hbw).mono ?_
        rintro ee w3 ⟨rfl, hb3⟩
        have z1 : w3.cell? ⟨g1, k, none⟩ = some (.int .i64 n) := (hb3.cell (p := ⟨g1, k, none⟩) (by show g1 < wr.heap.size; have := HB.out.size; omega)).trans x1
        have z2 : w3.cell? ⟨g3, k, none⟩ = some (.int .i64 m) := (hb3.cell (p := ⟨g3, k, none⟩) (by show g3 < wr.heap.size; have := HB.out.size; omega)).trans y1
        have HB3 := Lib.hid (HB.out.trans ((show Below wr.heap.size wr w3 from hbw.trans hb3).mono HB.out.size))
        have HB4 := Lib.hid (Hb1.out.trans ((Hb2.out.trans (HB3.out.mono (by have := Hb2.out.size; omega))).mono Hb1.out.size))
        obtain ⟨c, hc⟩ : ∃ c, c = e.cmp f := ⟨_, rfl⟩
        rw [← hc]
        have Hc := Lib.hid hc
        clear hc x1 x2 y1 y2 hb3 hbw
        by_cases hc0 : c = 0
        · subst hc0
          by_cases hnm : n < m
          · have hb0 : (n != m) = true := by simp; omega
            have hb1 : decide (n < m) = true := by simp [hnm]
            go_wp2_with fail
            go_quiet (fail)
            go_wp2_with fail
            go_quiet (fail)
            go_wp2_with fail
            go_ret
            refine ⟨ret_int ?_, HB4.out.trans ?_⟩
            · obtain ⟨h1, h2, h3, h4, h5⟩ := HU.out
              rw [h5, T.cmp_c, if_pos Hc.out.symm, if_pos hnm]
            · exact (Joins.below_draws _ _ _).trans (Joins.below_draws _ _ _)
          · by_cases hmn : m < n
            · have hb0 : (n != m) = true := by simp; omega
              have hb1 : decide (n < m) = false := by simp; omega
              go_wp2_with fail
              go_quiet (fail)
              go_wp2_with fail
              go_quiet (fail)
              go_wp2_with fail
              go_ret
              refine ⟨ret_int ?_, HB4.out.trans ?_⟩
              · obtain ⟨h1, h2, h3, h4, h5⟩ := HU.out
                rw [h5, T.cmp_c, if_pos Hc.out.symm, if_neg (by omega), if_pos (by omega)]
              · exact (Joins.below_draws _ _ _).trans (Joins.below_draws _ _ _)
            · obtain rfl : n = m := by omega
              go_wp2_with fail
              go_quiet (fail)
              go_wp2_with fail
              go_roundw
              case rel =>
                obtain ⟨h1, h2, h3, h4, h5⟩ := HU.out
                refine ⟨k + 1, d1.app (.c n e .z), r, d2.app (.c n f .z), q, by omega, by omega, ⟨by rw [T.app_assoc]; exact h1, by rw [T.app_assoc]; exact h2, by rw [T.app_cnt, h3]; rfl, by rw [T.app_cnt, h4]; rfl, ?_⟩, by go_num, HB3.out.trans (Joins.below_draws _ _ _)⟩
                rw [h5, T.cmp_c, if_pos Hc.out.symm, if_neg (by omega), if_neg (by omega)]
              case measure => simp [intOf]; omega
        · have hb0 : (c != 0) = true := by simp [hc0]
          go_wp2_with fail
          go_ret
          refine ⟨ret_int ?_, HB4.out⟩
          obtain ⟨h1, h2, h3, h4, h5⟩ := HU.out
          rw [h5, T.cmp_c, if_neg (by rw [← Hc.out]; exact hc0)]
          exact Hc.out

end Go.Proofs.Ytdcgcohfbcdnnaa
