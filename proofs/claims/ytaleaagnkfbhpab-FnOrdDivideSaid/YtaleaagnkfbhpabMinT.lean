/- The model's OrdMinus. -/
import Derived.Test.YtaleaagnkfbhpabMinS
namespace Go.Proofs.Ytaleaagnkfbhpab
open Go.RowKit

set_option maxHeartbeats 1000000 in
theorem spec_OrdMinus (a1 a2 : Option Addr) (n1 c1 n2 c2 : Nat) (xs ys : List Int) (w : World) (hx : Sl w a1 n1 c1 xs) (hy : Sl w a2 n2 c2 ys) :
    Calls Try.prog 22 #[.slice a1 n1 c1, .slice a2 n2 c2] w (OrdOkPost w (T.minusRow xs ys) (T.minusOk xs ys)) := by
  have kc := Lib.hid (spec_OrdCompare a1 a2 n1 c1 n2 c2 xs ys w hx hy)
  obtain ⟨cv, hcv⟩ : ∃ cv, cv = T.cmpRow xs ys := ⟨_, rfl⟩
  rw [← hcv] at kc
  by_cases hneg : cv < 0
  · have hbad := T.minusRow_bad (xs := xs) (ys := ys) (by rw [← hcv]; omega)
    rw [hbad.1, hbad.2]
    clear hx hy hbad hcv
    go_enter Try.func22, Try.ntmps22
    go_wp2_with fail
    refine (kc.out).mono ?_
    rintro ee w1 ⟨rfl, hb1⟩
    have Hb1 := Lib.hid hb1
    clear hb1
    go_wp2_with fail
    go_ret2
    exact lit_post Hb1.out
  · have h0 : 0 ≤ T.cmpRow xs ys := by omega
    obtain ⟨h1, h2, h3⟩ := T.cmpRow_vld h0
    have hgood := T.minusRow_val h0
    rw [hgood.1, hgood.2]
    obtain ⟨b1, o1, s, rfl, rfl, hs, hos, hat1, hn1, hl1, hp1, hcc1, hm1⟩ := hx.valid h1
    obtain ⟨b2, o2, t, rfl, rfl, ht, hot, hat2, hn2, hl2, hp2, hcc2, hm2⟩ := hy.valid h2
    rw [hos, hot]
    have Hn1 := Lib.hid hn1
    have Hn2 := Lib.hid hn2
    have HA1 := Lib.hid hat1
    have HA2 := Lib.hid hat2
    have HS := Lib.hid hs
    have HT := Lib.hid ht
    obtain ⟨u, hu⟩ : ∃ u, u = T.minus s t := ⟨_, rfl⟩
    rw [← hu]
    have Hu := Lib.hid hu
    clear hx hy h0 h1 h2 h3 hgood hos hot hat1 hat2 hs ht hn1 hn2 hu hcv
    go_enter Try.func22, Try.ntmps22
    go_wp2_with fail
    refine (kc.out).mono ?_
    rintro ee w1 ⟨rfl, hb1⟩
    have Hb1 := Lib.hid hb1
    have k2 := Lib.hid (l2Minus_any b1 o1 n1 c1 b2 o2 n2 c2 s t w1 Hn1.out Hn2.out (by omega) (by omega) (fun x hx => by have := T.nf_times HS.out x hx; omega) (fun x hx => by have := T.nf_times HT.out x hx; omega) hcc1 hm1 hcc2 hm2
      (HA1.out.below hb1 (HA1.out.lt (T.enc_ne s))) (HA2.out.below hb1 (HA2.out.lt (T.enc_ne t))))
    rw [← Hu.out] at k2
    clear hb1
    go_wp2_with fail
    refine (k2.out).mono ?_
    rintro ee w2 ⟨a3, c3, rfl, ho3, hb3⟩
    have hfin : OrdOkPost w u.enc true (.returned (.tuple #[.slice a3 u.enc.length c3, .bool true])) w2 :=
      ⟨a3, c3, rfl, Joins.ownsRow_le ho3 Hb1.out.size, Hb1.out.trans (hb3.mono Hb1.out.size)⟩
    have Hfin := Lib.hid hfin
    clear ho3 hb3 hfin
    go_wp2_with fail
    go_ret2
    exact Hfin.out

end Go.Proofs.Ytaleaagnkfbhpab
