/- compareOrds returns the order of the two ordinals. -/
import Derived.Test.YtdcgcohfbcdnnaaCmpRead
namespace Go.Proofs.Ytdcgcohfbcdnnaa
set_option maxRecDepth 100000
open Go.RowKit

set_option maxHeartbeats 2000000 in
theorem compareOrds_any (N : Nat) : ∀ (b1 off1 cap1 b2 off2 cap2 n1 n2 : Nat) (s t : T) (w : World), s.body.length < N → n1 = s.enc.length → n2 = t.enc.length → n1 ≤ 1000000000000 → n2 ≤ 1000000000000 → n1 ≤ cap1 → cap1 ≤ maxLen → n2 ≤ cap2 → cap2 ≤ maxLen →
    At w b1 off1 s.enc → At w b2 off2 t.enc →
    Calls Try.prog 111 #[.slice (some ⟨b1, off1, none⟩) n1 cap1, .slice (some ⟨b2, off2, none⟩) n2 cap2] w fun e w' => e = .returned (.int .i64 (s.cmp t)) ∧ Below w.heap.size w w' := by
  induction N with
  | zero => intro b1 off1 cap1 b2 off2 cap2 n1 n2 s t w hN; omega
  | succ N ih =>
    intro b1 off1 cap1 b2 off2 cap2 n1 n2 s t w hN hn1 hn2 hl1 hl2 hc1 hm1 hc2 hm2 ha1 ha2
    have HN1 := Lib.hid hn1
    have HN2 := Lib.hid hn2
    clear hn1 hn2
    have c1 := Lib.hid (termsOf_any b1 off1 n1 cap1 s.enc s w HN1.out.symm hl1 hc1 hm1 ha1 rfl)
    go_enter Try.func111, Try.ntmps111
    go_wp2_with fail
    refine (c1.out).mono ?_
    rintro ee w1 ⟨cs1, rfl, ho1, hT1, hb1⟩
    have c2 := Lib.hid (termsOf_any b2 off2 n2 cap2 t.enc t w1 HN2.out.symm hl2 hc2 hm2 (ha2.below hb1 (ha2.lt (T.enc_ne t))) rfl)
    have Hb1 := Lib.hid hb1
    clear hb1
    go_wp2_with fail
    refine (c2.out).mono ?_
    rintro ee w2 ⟨cs2, rfl, ho2, hT2, hb2⟩
    have ho1 := ownsRow_below' ho1 hb2
    have hT1 := hT1.below hb2
    have hlt1 := (ho1.lt _ rfl).2
    have hlt2 := (ho2.lt _ rfl).2
    have hcl1 : s.cnt ≤ 1000000000000 := by have := T.cnt_le s; have := T.enc_len s; have := HN1.out; omega
    have hcl2 : t.cnt ≤ 1000000000000 := by have := T.cnt_le t; have := T.enc_len t; have := HN2.out; omega
    obtain ⟨g1, hg1⟩ : ∃ g, g = w.heap.size := ⟨_, rfl⟩
    obtain ⟨g2, hg2⟩ : ∃ g, g = w1.heap.size := ⟨_, rfl⟩
    rw [← hg1] at ho1 hlt1 ⊢
    rw [← hg2] at ho2 hlt2 ⊢
    have Hb2 := Lib.hid hb2
    have Hg1 := Lib.hid hg1
    have Hg2 := Lib.hid hg2
    clear hb2 hg1 hg2
    go_wp2_with fail
    all_goals
      go_loopw [19] (fun i wr => ∃ (k : Nat) (d1 u1 d2 u2 : T), k ≤ s.cnt ∧ k ≤ t.cnt ∧ Hid (d1.app u1 = s ∧ d2.app u2 = t ∧ d1.cnt = k ∧ d2.cnt = k ∧ s.cmp t = u1.cmp u2) ∧ i = .int .i64 k ∧ Below w2.heap.size w2 wr) (fun i _ => s.cnt - (intOf i).toNat)
      case atStart => exact ⟨0, .z, s, .z, t, by omega, by omega, ⟨rfl, rfl, rfl, rfl, rfl⟩, rfl, Below.refl _ _⟩
      case round =>
        obtain ⟨k, d1, u1, d2, u2, hk1, hk2, HU, rfl, hbr⟩ := hrel
        obtain ⟨h1, h2, h3, h4, h5⟩ := HU.out
        by_cases hz : u1 = .z ∨ u2 = .z
        · have hcs : s.cnt = k + u1.cnt := by rw [← h1, T.app_cnt, h3]
          have hct : t.cnt = k + u2.cnt := by rw [← h2, T.app_cnt, h4]
          have hz2 : u1.cnt = 0 ∨ u2.cnt = 0 := by rcases hz with rfl | rfl <;> simp [T.cnt]
          have hfin := T.cmp_len u1 u2 hz
          have e1 : ((s.cnt : Int) < t.cnt) ↔ (u1.cnt < u2.cnt) := by omega
          have e2 : ((t.cnt : Int) < s.cnt) ↔ (u2.cnt < u1.cnt) := by omega
          have hfin2 : cmpI s.cnt t.cnt = s.cmp t := by rw [h5, hfin]; simp only [cmpI, e1, e2]
          have Hfin := Lib.hid hfin2
          have hge1 : s.cnt ≤ k ∨ t.cnt ≤ k := by omega
          have Hb := Lib.hid (Hb1.out.trans ((Hb2.out.trans (hbr.mono (by have := Hb2.out.size; omega))).mono Hb1.out.size))
          have cc := Lib.hid (cmp_int (s.cnt : Int) (t.cnt : Int) wr)
          clear h1 h2 h3 h4 h5 hz hcs hct hz2 hfin hfin2 hbr e1 e2
          go_wp2_with fail
          refine (cc.out).mono ?_
          rintro ee w' ⟨rfl, rfl⟩
          go_wp2_with fail
          go_ret
          exact ⟨ret_int Hfin.out, Hb.out⟩
        · obtain ⟨n, e, r, rfl⟩ : ∃ n e r, u1 = .c n e r := by
            cases u1 with
            | z => exact absurd (.inl rfl) hz
            | c n e r => exact ⟨n, e, r, rfl⟩
          obtain ⟨m, f, q, rfl⟩ : ∃ n e r, u2 = .c n e r := by
            cases u2 with
            | z => exact absurd (.inr rfl) hz
            | c n e r => exact ⟨n, e, r, rfl⟩
          have hcs : k + 1 + r.cnt = s.cnt := by rw [← h1, T.app_cnt, h3]; simp [T.cnt]; omega
          have hct : k + 1 + q.cnt = t.cnt := by rw [← h2, T.app_cnt, h4]; simp [T.cnt]; omega
          have hks : k < s.cnt := by omega
          have hkt : k < t.cnt := by omega
          obtain ⟨be, oe, ce, p1, p2, p3, p4, p5⟩ := hT1.pick h1 h3
          obtain ⟨bf, of, cf, q1, q2, q3, q4, q5⟩ := hT2.pick h2 h4
          have x1 : wr.cell? ⟨g1, k * 2, none⟩ = some (.int .i64 n) := (hbr.cell (p := ⟨g1, k * 2, none⟩) hlt1).trans (by rw [ho1.cellAt _ (by omega), Nat.mul_comm]; exact p1)
          have x2 : wr.cell? ⟨g1, k * 2 + 1, none⟩ = some (.slice (some ⟨be, oe, none⟩) e.enc.length ce) := (hbr.cell (p := ⟨g1, k * 2 + 1, none⟩) hlt1).trans (by rw [ho1.cellAt _ (by omega), Nat.mul_comm]; exact p2)
          have y1 : wr.cell? ⟨g2, k * 2, none⟩ = some (.int .i64 m) := (hbr.cell (p := ⟨g2, k * 2, none⟩) hlt2).trans (by rw [ho2.cellAt _ (by omega), Nat.mul_comm]; exact q1)
          have y2 : wr.cell? ⟨g2, k * 2 + 1, none⟩ = some (.slice (some ⟨bf, of, none⟩) f.enc.length cf) := (hbr.cell (p := ⟨g2, k * 2 + 1, none⟩) hlt2).trans (by rw [ho2.cellAt _ (by omega), Nat.mul_comm]; exact q2)
          have hbw : Below wr.heap.size wr wr.drew := (Below.refl _ _).drew
          have hes : e.body.length < N := by
            have h6 := congrArg (fun t => t.body.length) h1
            rw [T.app_body, T.body_c] at h6
            simp [T.enc] at h6
            omega
          have hel : e.enc.length ≤ 1000000000000 := by
            have h6 := congrArg (fun t => t.body.length) h1
            rw [T.app_body, T.body_c] at h6
            simp [T.enc] at h6
            have := T.enc_len s
            have := HN1.out
            rw [T.enc_len]
            omega
          have hfl : f.enc.length ≤ 1000000000000 := by
            have h6 := congrArg (fun t => t.body.length) h2
            rw [T.app_body, T.body_c] at h6
            simp [T.enc] at h6
            have := T.enc_len t
            have := HN2.out
            rw [T.enc_len]
            omega
          have Hat1 := Lib.hid (p3.below hbr (p3.lt (T.enc_ne e)))
          have Hat2 := Lib.hid (q3.below hbr (q3.lt (T.enc_ne f)))
          have ih2 := fun w' (hw : Below wr.heap.size wr w') => ih be oe ce bf of cf e.enc.length f.enc.length e f w' hes rfl rfl hel hfl p4 p5 q4 q5 (Hat1.out.below hw (Hat1.out.lt (T.enc_ne e))) (Hat2.out.below hw (Hat2.out.lt (T.enc_ne f)))
          have IH2 := Lib.hid ih2
          have HB := Lib.hid hbr
          clear ih2 h1 h2 h3 h4 h5 hz hcs hct p1 p2 p3 q1 q2 q3 hbr
          go_wp2_with fail
          go_still_tail 10, (by kernel_rfl)
          change wpList _ _ _ _ _ wr.drew
          go_wp2_with fail
          refine (IH2.out _ hbw).mono ?_
          rintro ee w3 ⟨rfl, hb3⟩
          have hlr1 : g1 < wr.heap.size := by have := HB.out.size; omega
          have hlr2 : g2 < wr.heap.size := by have := HB.out.size; omega
          have z1 : w3.cell? ⟨g1, k * 2, none⟩ = some (.int .i64 n) := (hb3.cell (p := ⟨g1, k * 2, none⟩) hlr1).trans x1
          have z2 : w3.cell? ⟨g2, k * 2, none⟩ = some (.int .i64 m) := (hb3.cell (p := ⟨g2, k * 2, none⟩) hlr2).trans y1
          have HB3 := Lib.hid (HB.out.trans ((show Below wr.heap.size wr w3 from hbw.trans hb3).mono HB.out.size))
          have HB4 := Lib.hid (Hb1.out.trans ((Hb2.out.trans (HB3.out.mono (by have := Hb2.out.size; omega))).mono Hb1.out.size))
          obtain ⟨c, hc⟩ : ∃ c, c = e.cmp f := ⟨_, rfl⟩
          have hcv : c = -1 ∨ c = 0 ∨ c = 1 := by rw [hc]; exact T.cmp_vals e f
          rw [← hc]
          have Hc := Lib.hid hc
          clear hc x1 x2 y1 y2 hb3 hbw
          by_cases hc0 : c = 0
          · subst hc0
            have cc := Lib.hid (cmp_int n m w3.drew)
            clear hcv
            go_wp2_with fail
            go_still_tail 10, (by kernel_rfl)
            change wpList _ _ _ _ _ w3.drew
            go_wp2_with fail
            refine (cc.out).mono ?_
            rintro ee w' ⟨rfl, hw'⟩
            subst hw'
            obtain ⟨c', hc'⟩ : ∃ c, c = cmpI n m := ⟨_, rfl⟩
            rw [← hc']
            have hcv : c' = -1 ∨ c' = 0 ∨ c' = 1 := by rw [hc']; unfold cmpI; split <;> (try split) <;> simp
            have Hc' := Lib.hid hc'
            clear hc'
            by_cases hc1 : c' = 0
            · subst hc1
              clear hcv
              go_wp2_with fail
              go_roundw
              case rel =>
                obtain ⟨h1, h2, h3, h4, h5⟩ := HU.out
                refine ⟨k + 1, d1.app (.c n e .z), r, d2.app (.c m f .z), q, by omega, by omega, ⟨by rw [T.app_assoc]; exact h1, by rw [T.app_assoc]; exact h2, by rw [T.app_cnt, h3]; rfl, by rw [T.app_cnt, h4]; rfl, ?_⟩, by go_num, HB3.out.drew⟩
                have h6 := Hc'.out
                rw [h5, T.cmp_c, if_pos Hc.out.symm]
                unfold cmpI at h6
                split at h6
                · omega
                · split at h6
                  · omega
                  · rename_i q1 q2; rw [if_neg q1, if_neg q2]
              case measure => simp [intOf]; omega
            · have hb0 : (c' != 0) = true := by simp [hc1]
              clear hcv hc1
              go_wp2_with fail
              go_ret
              refine ⟨ret_int ?_, HB4.out.drew⟩
              obtain ⟨h1, h2, h3, h4, h5⟩ := HU.out
              have h6 := Hc'.out
              rw [h5, T.cmp_c, if_pos Hc.out.symm, h6]
              unfold cmpI at h6 ⊢
              split
              · rfl
              · split
                · rfl
                · rename_i q1 q2; rw [if_neg q1, if_neg q2] at h6; subst h6; simp at hb0
          · have hb0 : (c != 0) = true := by simp [hc0]
            clear hcv
            go_wp2_with fail
            go_ret
            refine ⟨ret_int ?_, HB4.out⟩
            obtain ⟨h1, h2, h3, h4, h5⟩ := HU.out
            rw [h5, T.cmp_c, if_neg (by rw [← Hc.out]; exact hc0)]
            exact Hc.out

end Go.Proofs.Ytdcgcohfbcdnnaa
