/- The program's quotients. -/
import Derived.Test.YtaleaagnkfbhpaaDiv
import Derived.Test.YtaleaagnkfbhpaaMinI
namespace Go.Proofs.Ytaleaagnkfbhpaa
open Go.RowKit

theorem Rw.tmo {w : World} {b o n c : Nat} {t : T} {l : List Value} (h : Rw w b o n c t l) : Tmo w (some ⟨b, o, none⟩) n t :=
  ⟨h.1, l, h.2.2.2.1, fun _ => ⟨b, o, rfl, h.2.2.2.2.1, h.2.2.2.2.2⟩⟩

theorem Tmo.below {w w' : World} {a : Option Addr} {n : Nat} {t : T} (h : Tmo w a n t) (hb : Below w.heap.size w w') : Tmo w' a n t := by
  obtain ⟨h1, cs, h2, h3⟩ := h
  refine ⟨h1, cs, h2.below hb, fun hp => ?_⟩
  obtain ⟨g, o, h4, h5, h6⟩ := h3 hp
  exact ⟨g, o, h4, Nat.lt_of_lt_of_le h5 hb.size, fun j u hj => (hb.cell (p := ⟨g, o + j, none⟩) h5).trans (h6 j u hj)⟩

/-- A row of the call's own, as it is read. -/
theorem own_row {w : World} {B c : Nat} {a : Option Addr} {t : T} (h : w.ownsRow B 3 1 (.slice a t.enc.length c) t.enc.length (ints t.enc)) :
    ∃ g, a = some ⟨g, 0, none⟩ ∧ B ≤ g ∧ At w g 0 t.enc ∧ t.enc.length ≤ c ∧ c ≤ maxLen := by
  have hs := Sl.of_own h
  obtain ⟨b, o, he, hat⟩ := hs.2.2.2 (by rw [T.enc_len]; omega)
  obtain ⟨g, cap, hf⟩ := Joins.ownsRow_form h (by rw [T.enc_len]; omega)
  simp only [Value.slice.injEq] at hf
  obtain ⟨rfl, _, rfl⟩ := hf
  simp only [Option.some.injEq, Addr.mk.injEq, and_true] at he
  obtain ⟨rfl, rfl⟩ := he
  exact ⟨g, rfl, (h.lt g rfl).1, hat, hs.2.1, hs.2.2.1⟩

set_option maxRecDepth 100000 in
set_option maxHeartbeats 4000000 in
theorem timesIn_any (b1 o1 n1 k1 g2 n2 c2 : Nat) (s : T) (m : Int) (f b : T) (l ds : List Value) (w : World) (h1 : Rw w b1 o1 n1 k1 s l) (h2 : Tz w g2 n2 c2 (.c m f b) ds) (hs : s.Nf) (ht : (T.c m f b).Nf)
    (hl1 : s.enc.length ≤ 1000) (hl2 : (T.c m f b).enc.length ≤ 1000) :
    Calls Try.prog 42 #[.slice (some ⟨b1, o1, none⟩) n1 k1, .slice (some ⟨g2, 0, none⟩) n2 c2] w fun e w' => e = .returned (.int .i64 (T.timesN m f b s)) ∧ Below w.heap.size w w' := by
  cases s with
  | z =>
    have hn : n1 = 0 := h1.1
    subst hn
    have hR : T.timesN m f b .z = 0 := by rw [T.timesN]
    rw [hR]
    clear h1 h2 hR
    go_enter Try.func42, Try.ntmps42
    go_wp2_with fail
    go_quiet (fail)
    go_wp2_with fail
    go_ret
    exact ⟨rfl, Joins.below_draws _ _ _⟩
  | c n e r =>
    have hn1 : n1 ≤ 1000 := by have h3 := h1.1; have := T.cnt_le (T.c n e r); have := T.enc_len (T.c n e r); omega
    have hn2 : n2 ≤ 1000 := by have h3 := h2.1; have := T.cnt_le (T.c m f b); have := T.enc_len (T.c m f b); omega
    have hp1 : 0 < n1 := by have h3 := h1.1; simp only [T.cnt] at h3; omega
    have hp2 : 0 < n2 := by have h3 := h2.1; simp only [T.cnt] at h3; omega
    have hq : ((n1 : Int) == 0) = false := by simp; omega
    have hp3 : (0 : Int) < (n1 : Int) := by omega
    have hp4 : (0 : Int) < (n2 : Int) := by omega
    have Htmo := Lib.hid h1.tmo
    have H2 := Lib.hid h2
    have hb1 := h1.2.2.2.2.1
    have hb2 := h2.2.2.2.2.1
    have x0 : w.cell? ⟨b1, o1, none⟩ = some (.int .i64 n) := by obtain ⟨be, oe, ce, l', hl', _⟩ := h1.2.2.2.1; exact h1.2.2.2.2.2 0 _ (by rw [hl']; rfl)
    obtain ⟨be, oe, ce, l', hl', hate, hce, hcem, _⟩ := h1.2.2.2.1
    have x1 : w.cell? ⟨b1, o1 + 1, none⟩ = some (.slice (some ⟨be, oe, none⟩) e.enc.length ce) := h1.2.2.2.2.2 1 _ (by rw [hl']; rfl)
    obtain ⟨bf, of, cf, ds', rfl, hatf, hcf, hcfm, hTb⟩ := h2.2.2.2.1
    have y0 : w.cell? ⟨g2, 0, none⟩ = some (.int .i64 m) := h2.2.2.2.2.2 0 (by omega)
    have y1 : w.cell? ⟨g2, 1, none⟩ = some (.slice (some ⟨bf, of, none⟩) f.enc.length cf) := h2.2.2.2.2.2 1 (by omega)
    have hel : e.enc.length ≤ 1000 := by have h3 := T.enc_len (T.c n e r); rw [T.body_c, List.length_cons, List.length_append] at h3; omega
    have Hmb := Lib.hid (show 1 ≤ m ∧ m ≤ 9999 from ⟨ht.1, ht.2.1⟩)
    have Hnb := Lib.hid (show 1 ≤ n ∧ n ≤ 9999 from ⟨hs.1, hs.2.1⟩)
    have HTb := Lib.hid hTb
    have Hatf := Lib.hid hatf
    have ke := Lib.hid (slicesEqual_any (some ⟨be, oe, none⟩) (some ⟨bf, of, none⟩) e.enc.length ce f.enc.length cf e.enc f.enc w.drew (by omega)
      ⟨rfl, hce, hcem, fun _ => ⟨be, oe, rfl, hate.below (Below.refl _ _).drew (hate.lt (T.enc_ne e))⟩⟩ ⟨rfl, hcf, hcfm, fun _ => ⟨bf, of, rfl, hatf.below (Below.refl _ _).drew (hatf.lt (T.enc_ne f))⟩⟩)
    clear h1 h2 hs ht hate hatf hl' hTb
    by_cases hef : e.cmp f = 0
    · have hefq := T.cmp_eq hef
      subst hefq
      rw [eqB_refl] at ke
      obtain ⟨N, hN⟩ : ∃ N, N = n / m := ⟨_, rfl⟩
      obtain ⟨hN0, hN1, hN2⟩ := T.div_le (n := n) (m := m) Hmb.out.1 (by have := Hnb.out.1; omega)
      rw [← hN] at hN0 hN1 hN2
      have hR : T.timesN m e b (.c n e r) = if 0 < N ∧ (T.c (m * N) e b).cmp (.c n e r) = 1 then N - 1 else N := by rw [T.timesN, if_pos (T.cmp_refl e), hN]
      have HR := Lib.hid hR
      have hm0 : ¬ m = 0 := by have := Hmb.out.1; omega
      have hmz : (m == 0) = false := by simpa using hm0
      have hq1 : n.tdiv m = N := by rw [hN]; exact Int.tdiv_eq_ediv_of_nonneg (by have := Hnb.out.1; omega)
      have hNb : N ≤ 9999 := by have := Hnb.out.2; omega
      have hq2 : IntKind.i64.wrap N = N := IntWalk.i64_in _ (by omega)
      clear hef hN hR
      go_enter Try.func42, Try.ntmps42
      go_wp2_with fail
      go_still_tail 12, (by kernel_rfl)
      change wpList _ _ _ _ _ w.drew
      go_wp2_with fail
      refine (ke.out).mono ?_
      rintro ee w1 ⟨rfl, hb1'⟩
      have hbw : Below w.heap.size w w1 := ((Below.refl w.heap.size w).drew).trans hb1'
      have x0' : w1.cell? ⟨b1, o1, none⟩ = some (.int .i64 n) := (hbw.cell (p := ⟨b1, o1, none⟩) hb1).trans x0
      have y0' : w1.cell? ⟨g2, 0, none⟩ = some (.int .i64 m) := (hbw.cell (p := ⟨g2, 0, none⟩) hb2).trans y0
      have Hbw := Lib.hid hbw
      clear hb1' hbw x0 y0 x1 y1
      by_cases hNp : 0 < N
      · go_wp2_with fail
        go_quiet (fail)
        generalize hwq : w1.drewN _ = wq
        have hbq : Below w1.heap.size w1 wq := by rw [← hwq]; exact Joins.below_draws _ _ _
        have Hbq := Lib.hid (Hbw.out.trans (hbq.mono Hbw.out.size))
        have H2q := Lib.hid (H2.out.below Hbq.out)
        have kn := Lib.hid (timesNumber_any g2 n2 c2 bf of cf m N e b ds' wq H2q.out (by omega) (by have h9 : 0 ≤ m * N := Int.mul_nonneg (by have := Hmb.out.1; omega) hN0; omega) (by have := Hnb.out.2; omega))
        clear hwq hbq x0' y0'
        go_wp2_with fail
        refine (kn.out).mono ?_
        rintro ee w2 ⟨g3, c3, rfl, ho3, hb3⟩
        have hbq2 := Hbq.out.trans (hb3.mono Hbq.out.size)
        have hTC : TC w2 (.c (m * N) e b) (.int .i64 (m * N) :: .slice (some ⟨bf, of, none⟩) e.enc.length cf :: ds') := ⟨bf, of, cf, ds', rfl, Hatf.out.below hbq2 (Hatf.out.lt (T.enc_ne e)), hcf, hcfm, HTb.out.below hbq2⟩
        have htm := Tm.of_own ho3 hTC (by have := H2.out.1; simpa [T.cnt] using this)
        obtain ⟨tt, htt⟩ : ∃ tt, tt = T.c (m * N) e b := ⟨_, rfl⟩
        have htl : tt.enc.length ≤ 1000 := by rw [htt]; have h3 := hl2; rw [T.enc_len, T.body_c] at h3 ⊢; simpa using h3
        rw [← htt] at htm
        have k4 := Lib.hid (ordOfTerms_any (some ⟨g3, 0, none⟩) n2 c3 tt w2 (by omega) htm)
        have Hbq2 := Lib.hid hbq2
        have Htt := Lib.hid htt
        clear ho3 hb3 hbq2 hTC htm htt
        go_wp2_with fail
        refine (k4.out).mono ?_
        rintro ee w3 ⟨a4, c4, rfl, ho4, hb4⟩
        obtain ⟨g4, rfl, hg4, hat4, hc4, hm4⟩ := own_row ho4
        have Hb3 := Lib.hid (Hbq2.out.trans (hb4.mono Hbq2.out.size))
        have Hat4 := Lib.hid hat4
        have k5 := Lib.hid (ordOfTerms_at (some ⟨b1, o1, none⟩) n1 k1 (.c n e r) w3 (by omega) (Htmo.out.below Hb3.out))
        clear ho4 hb4 hat4
        go_wp2_with fail
        refine (k5.out).mono ?_
        rintro ee w4 ⟨a5, c5, rfl, ho5, hb5⟩
        obtain ⟨g5, rfl, hg5, hat5, hc5, hm5⟩ := own_row ho5
        have Hb4 := Lib.hid (Hb3.out.trans (hb5.mono Hb3.out.size))
        have k6 := Lib.hid (compareOrds_any (tt.body.length + 1) g4 0 c4 g5 0 c5 tt.enc.length (T.c n e r).enc.length tt (.c n e r) w4 (by omega) rfl rfl (by omega) (by omega) hc4 hm4 hc5 hm5 (Hat4.out.below hb5 (Hat4.out.lt (T.enc_ne tt))) hat5)
        obtain ⟨cv, hcv⟩ : ∃ cv, cv = tt.cmp (.c n e r) := ⟨_, rfl⟩
        rw [← hcv] at k6
        have Hcv := Lib.hid hcv
        clear ho5 hb5 hat5 hcv
        go_wp2_with fail
        refine (k6.out).mono ?_
        rintro ee w5 ⟨rfl, hb6⟩
        have Hb5 := Lib.hid (Hb4.out.trans (hb6.mono Hb4.out.size))
        clear hb6
        by_cases hcp : 0 < cv
        · have hv : T.timesN m e b (.c n e r) = N - 1 := by
            rw [HR.out, if_pos]
            refine ⟨hNp, ?_⟩
            have h1 := Hcv.out
            rw [Htt.out] at h1
            rcases T.cmp_vals (T.c (m * N) e b) (.c n e r) with h | h | h <;> omega
          have hq4 : IntKind.i64.wrap (N - 1) = N - 1 := IntWalk.i64_in _ (by omega)
          have Hv := Lib.hid hv
          clear hv
          go_wp2_with fail
          go_ret
          exact ⟨by rw [Hv.out]; rfl, Hb5.out⟩
        · have hv : T.timesN m e b (.c n e r) = N := by
            rw [HR.out, if_neg]
            rintro ⟨_, h⟩
            have h1 := Hcv.out
            rw [Htt.out] at h1
            omega
          have Hv := Lib.hid hv
          clear hv
          go_wp2_with fail
          go_ret
          exact ⟨by rw [Hv.out]; rfl, Hb5.out⟩
      · have hv : T.timesN m e b (.c n e r) = N := by rw [HR.out, if_neg (fun h => hNp h.1)]
        have Hv := Lib.hid hv
        clear hv
        go_wp2_with fail
        go_quiet (fail)
        go_wp2_with fail
        go_ret
        exact ⟨by rw [Hv.out]; rfl, Hbw.out.trans ((Joins.below_draws _ _ _).mono Hbw.out.size)⟩
    · have heq : eqB e.enc f.enc = false := by
        rw [eqB, decide_eq_false_iff_not]
        intro h
        exact hef (T.cmp_eq_iff.2 (T.enc_inj' h))
      rw [heq] at ke
      have hR : T.timesN m f b (.c n e r) = 0 := by rw [T.timesN, if_neg hef]
      rw [hR]
      clear hef heq hR
      go_enter Try.func42, Try.ntmps42
      go_wp2_with fail
      go_still_tail 12, (by kernel_rfl)
      change wpList _ _ _ _ _ w.drew
      go_wp2_with fail
      refine (ke.out).mono ?_
      rintro ee w1 ⟨rfl, hb1'⟩
      have Hbw := Lib.hid (((Below.refl w.heap.size w).drew).trans hb1')
      clear hb1'
      go_wp2_with fail
      go_ret
      exact ⟨rfl, Hbw.out⟩

end Go.Proofs.Ytaleaagnkfbhpaa
