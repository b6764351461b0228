/- The program's OrdMinus. -/
import Derived.Test.YtaleaagnkfbhpabMinI
namespace Go.Proofs.Ytaleaagnkfbhpab
open Go.RowKit

set_option maxHeartbeats 1000000 in
theorem impl_OrdMinus (a1 a2 : Option Addr) (n1 c1 n2 c2 : Nat) (xs ys : List Int) (w : World) (hx : Sl w a1 n1 c1 xs) (hy : Sl w a2 n2 c2 ys) :
    Calls Try.prog 21 #[.slice a1 n1 c1, .slice a2 n2 c2] w (OrdOkPost w (T.minusRow xs ys) (T.minusOk xs ys)) := by
  have HX := Lib.hid hx
  have HY := Lib.hid hy
  rcases vld_tf xs with h1 | h1
  · have k1 := Lib.hid (impl_valid a1 n1 c1 xs w hx h1)
    rcases vld_tf ys with h2 | h2
    · obtain ⟨rr, hrr⟩ : ∃ rr, rr = T.minusRow xs ys := ⟨_, rfl⟩
      obtain ⟨ro, hro⟩ : ∃ ro, ro = T.minusOk xs ys := ⟨_, rfl⟩
      rw [← hrr, ← hro]
      have hcv := T.cmpRow_val h1 h2
      obtain ⟨b1, o1, s, rfl, rfl, hs, hos, hat1, hn1, hl1, hp1, hcc1, hm1⟩ := hx.valid h1
      obtain ⟨b2, o2, t, rfl, rfl, ht, hot, hat2, hn2, hl2, hp2, hcc2, hm2⟩ := hy.valid h2
      rw [hos, hot] at hcv
      have Hrr := Lib.hid hrr
      have Hro := Lib.hid hro
      have Hcv := Lib.hid hcv
      have Hos := Lib.hid hos
      have Hot := Lib.hid hot
      have Hn1 := Lib.hid hn1
      have Hn2 := Lib.hid hn2
      have HA1 := Lib.hid hat1
      have HA2 := Lib.hid hat2
      have HS := Lib.hid hs
      have HT := Lib.hid ht
      have H2v := Lib.hid h2
      have hle1 : s.enc.length ≤ 1000 := by omega
      have hle2 : t.enc.length ≤ 1000 := by omega
      obtain ⟨cv, hcv'⟩ : ∃ cv, cv = s.cmp t := ⟨_, rfl⟩
      have Hcv' := Lib.hid hcv'
      clear hx hy h1 h2 hos hot hat1 hat2 hs ht hn1 hn2 hrr hro hcv hcv'
      go_enter Try.func21, Try.ntmps21
      go_wp2_with fail
      refine (k1.out).mono ?_
      rintro ee w1 ⟨rfl, hb1⟩
      have Hb1 := Lib.hid hb1
      have k2 := Lib.hid (impl_valid (some ⟨b2, o2, none⟩) n2 c2 t.enc w1 (HY.out.below hb1) H2v.out)
      clear hb1
      go_wp2_with fail
      refine (k2.out).mono ?_
      rintro ee w2 ⟨rfl, hb2⟩
      have Hb2 := Lib.hid (Hb1.out.trans (hb2.mono Hb1.out.size))
      have kc := Lib.hid (compareOrds_any (s.body.length + 1) b1 o1 c1 b2 o2 c2 n1 n2 s t w2 (by omega) Hn1.out Hn2.out (by omega) (by omega) hcc1 hm1 hcc2 hm2 (HA1.out.below Hb2.out (HA1.out.lt (T.enc_ne s))) (HA2.out.below Hb2.out (HA2.out.lt (T.enc_ne t))))
      rw [← Hcv'.out] at kc
      clear hb2
      go_wp2_with fail
      refine (kc.out).mono ?_
      rintro ee w3 ⟨rfl, hb3⟩
      have Hb3 := Lib.hid (Hb2.out.trans (hb3.mono Hb2.out.size))
      clear hb3
      by_cases hneg : cv < 0
      · have hbad := T.minusRow_bad (xs := s.enc) (ys := t.enc) (by rw [Hcv.out, ← Hcv'.out]; omega)
        have hfin : OrdOkPost w rr ro (.returned (.tuple #[.slice none 0 0, .bool false])) w3 := by
          rw [Hrr.out, Hro.out, hbad.1, hbad.2]
          exact OrdOkPost.nil (nil_own w w3) Hb3.out
        have Hfin := Lib.hid hfin
        clear hbad hfin
        go_wp2_with fail
        go_ret2
        exact Hfin.out
      · have hgood := T.minusRow_val (xs := s.enc) (ys := t.enc) (by rw [Hcv.out, ← Hcv'.out]; omega)
        rw [Hos.out, Hot.out] at hgood
        have hge : s.cmp t ≠ -1 := by have := Hcv'.out; omega
        have hlm : (T.minus s t).enc.length ≤ 1000000000000 := by have h1 := T.minus_len s t; have := T.enc_len s; have := T.enc_len (T.minus s t); omega
        have k4 := Lib.hid (termsOf_any b1 o1 n1 c1 s.enc s w3 Hn1.out.symm (by omega) hcc1 hm1 (HA1.out.below Hb3.out (HA1.out.lt (T.enc_ne s))) rfl)
        have Hgood := Lib.hid hgood
        have Hge := Lib.hid hge
        clear hgood hge
        go_wp2_with fail
        refine (k4.out).mono ?_
        rintro ee w4 ⟨cs, rfl, ho4, ht4, hb4⟩
        have Hb4 := Lib.hid (Hb3.out.trans (hb4.mono Hb3.out.size))
        have Hz4 := Lib.hid (Tz.of_own ho4 ht4 rfl)
        have k5 := Lib.hid (termsOf_any b2 o2 n2 c2 t.enc t w4 Hn2.out.symm (by omega) hcc2 hm2 (HA2.out.below Hb4.out (HA2.out.lt (T.enc_ne t))) rfl)
        clear ho4 ht4 hb4
        go_wp2_with fail
        refine (k5.out).mono ?_
        rintro ee w5 ⟨ds, rfl, ho5, ht5, hb5⟩
        have Hb5 := Lib.hid (Hb4.out.trans (hb5.mono Hb4.out.size))
        have k6 := Lib.hid (termsBehind_any w3.heap.size 0 s.cnt s.cnt w4.heap.size 0 t.cnt t.cnt s t cs ds w5 (Rw.of_tz (Hz4.out.below hb5)) (Rw.of_tz (Tz.of_own ho5 ht5 rfl)) hle1 hle2
          (fun x hx => by have := T.nf_times HS.out x hx; omega) (fun x hx => by have := T.nf_times HT.out x hx; omega) Hge.out)
        clear ho5 ht5 hb5
        go_wp2_with fail
        refine (k6.out).mono ?_
        rintro ee w6 ⟨a6, n6, c6, rfl, htm, hb6⟩
        have Hb6 := Lib.hid (Hb5.out.trans (hb6.mono Hb5.out.size))
        have k7 := Lib.hid (ordOfTerms_at a6 n6 c6 (T.minus s t) w6 hlm htm)
        clear htm hb6
        go_wp2_with fail
        refine (k7.out).mono ?_
        rintro ee w7 ⟨a7, c7, rfl, ho7, hb7⟩
        have hfin : OrdOkPost w rr ro (.returned (.tuple #[.slice a7 (T.minus s t).enc.length c7, .bool true])) w7 := by
          rw [Hrr.out, Hro.out, Hgood.out.1, Hgood.out.2]
          exact ⟨a7, c7, rfl, Joins.ownsRow_le ho7 Hb6.out.size, Hb6.out.trans (hb7.mono Hb6.out.size)⟩
        have Hfin := Lib.hid hfin
        clear ho7 hb7 hfin
        go_wp2_with fail
        go_ret2
        exact Hfin.out
    · have hbad := T.minusRow_bad (xs := xs) (ys := ys) (by rw [T.cmpRow_bad (.inr h2)]; omega)
      rw [hbad.1, hbad.2]
      have H2v := Lib.hid h2
      clear hx hy h1 h2 hbad
      go_enter Try.func21, Try.ntmps21
      go_wp2_with fail
      refine (k1.out).mono ?_
      rintro ee w1 ⟨rfl, hb1⟩
      have Hb1 := Lib.hid hb1
      have k2 := Lib.hid (impl_valid a2 n2 c2 ys w1 (HY.out.below hb1) H2v.out)
      clear hb1
      go_wp2_with fail
      refine (k2.out).mono ?_
      rintro ee w2 ⟨rfl, hb2⟩
      have Hb2 := Lib.hid (Hb1.out.trans (hb2.mono Hb1.out.size))
      clear hb2
      go_wp2_with fail
      go_ret2
      exact OrdOkPost.nil (nil_own w w2) Hb2.out
  · have hbad := T.minusRow_bad (xs := xs) (ys := ys) (by rw [T.cmpRow_bad (.inl h1)]; omega)
    have k1 := Lib.hid (impl_valid a1 n1 c1 xs w hx h1)
    rw [hbad.1, hbad.2]
    clear hx hy h1 hbad
    go_enter Try.func21, Try.ntmps21
    go_wp2_with fail
    refine (k1.out).mono ?_
    rintro ee w1 ⟨rfl, hb1⟩
    have Hb1 := Lib.hid hb1
    clear hb1
    go_wp2_with fail
    go_ret2
    exact OrdOkPost.nil (nil_own w w1) Hb1.out

end Go.Proofs.Ytaleaagnkfbhpab
