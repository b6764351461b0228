/- The program's OrdNatural. -/
import Derived.Test.YtlbaelehmoidpaaNatI
namespace Go.Proofs.Ytlbaelehmoidpaa
set_option maxRecDepth 100000
open Go.RowKit

set_option maxHeartbeats 1000000 in
theorem impl_OrdNatural (a1 a2 : Option Addr) (n1 c1 n2 c2 : Nat) (xs ys : List Int) (w : World) (hx : Sl w a1 n1 c1 xs) (hy : Sl w a2 n2 c2 ys) :
    Calls Try.prog 58 #[.slice a1 n1 c1, .slice a2 n2 c2] w (OrdOkPost w (T.natRow xs ys) (T.natOk xs ys)) := by
  have HX := Lib.hid hx
  have HY := Lib.hid hy
  rcases vld_tf xs with h1 | h1
  · have k1 := Lib.hid (impl_valid a1 n1 c1 xs w hx h1)
    rcases vld_tf ys with h2 | h2
    · obtain ⟨e1, e2⟩ := T.natRow_val h1 h2
      rw [e1, e2]
      obtain ⟨b1, o1, s, rfl, rfl, hs, hos, hat1, hn1, hl1, hp1, hcc1, hm1⟩ := hx.valid h1
      obtain ⟨b2, o2, t, rfl, rfl, ht, hot, hat2, hn2, hl2, hp2, hcc2, hm2⟩ := hy.valid h2
      rw [hos, hot]
      have Hn1 := Lib.hid hn1
      have Hn2 := Lib.hid hn2
      have HA1 := Lib.hid hat1
      have HA2 := Lib.hid hat2
      have HS := Lib.hid hs
      have HT := Lib.hid ht
      have H2v := Lib.hid h2
      have hle1 : s.enc.length ≤ 1000 := by omega
      have hle2 : t.enc.length ≤ 1000 := by omega
      have hal := T.nat_len s t
      have hle3 : (T.nat s t).enc.length ≤ 1000000000000 := by have := T.enc_len s; have := T.enc_len t; have := T.enc_len (T.nat s t); omega
      obtain ⟨u, hu⟩ : ∃ u, u = T.nat s t := ⟨_, rfl⟩
      rw [← hu]
      rw [← hu] at hle3
      have Hu := Lib.hid hu
      have hlu : (T.fit u).length ≤ 1000 := T.fit_len u
      clear hx hy h1 h2 e1 e2 hos hot hat1 hat2 hs ht hn1 hn2 hu hal
      go_enter Try.func58, Try.ntmps58
      go_wp2_with fail
      refine (k1.out).mono ?_
      rintro ee w1 ⟨rfl, hb1⟩
      have Hb1 := Lib.hid hb1
      have k2 := Lib.hid (impl_valid (some ⟨b2, o2, none⟩) n2 c2 t.enc w1 (HY.out.below hb1) H2v.out)
      clear hb1
      go_wp2_with fail
      refine (k2.out).mono ?_
      rintro ee w2 ⟨rfl, hb2⟩
      have Hb2 := Lib.hid (Hb1.out.trans (hb2.mono Hb1.out.size))
      have k3 := Lib.hid (termsOf_any b1 o1 n1 c1 s.enc s w2 Hn1.out.symm (by omega) hcc1 hm1 (HA1.out.below Hb2.out (HA1.out.lt (T.enc_ne s))) rfl)
      clear hb2
      go_wp2_with fail
      refine (k3.out).mono ?_
      rintro ee w3 ⟨cs, rfl, ho3, ht3, hb3⟩
      have Hb3 := Lib.hid (Hb2.out.trans (hb3.mono Hb2.out.size))
      have Hz3 := Lib.hid (Tz.of_own ho3 ht3 rfl)
      have k4 := Lib.hid (termsOf_any b2 o2 n2 c2 t.enc t w3 Hn2.out.symm (by omega) hcc2 hm2 (HA2.out.below Hb3.out (HA2.out.lt (T.enc_ne t))) rfl)
      clear ho3 ht3 hb3
      go_wp2_with fail
      refine (k4.out).mono ?_
      rintro ee w4 ⟨ds, rfl, ho4, ht4, hb4⟩
      have Hb4 := Lib.hid (Hb3.out.trans (hb4.mono Hb3.out.size))
      have Hz4 := Lib.hid (Hz3.out.below hb4)
      have k5 := Lib.hid (mergedTerms_any w2.heap.size s.cnt s.cnt w3.heap.size t.cnt t.cnt s t cs ds w4 Hz4.out (Tz.of_own ho4 ht4 rfl) hle1 hle2
        (fun x hx => by have := T.nf_times HS.out x hx; omega) (fun x hx => by have := T.nf_times HT.out x hx; omega))
      rw [← Hu.out] at k5
      clear ho4 ht4 hb4
      go_wp2_with fail
      refine (k5.out).mono ?_
      rintro ee w5 ⟨a5, n5, c5, rfl, htm, hb5⟩
      have Hb5 := Lib.hid (Hb4.out.trans (hb5.mono Hb4.out.size))
      have k6 := Lib.hid (fittingOrd_any a5 n5 c5 u w5 hle3 htm)
      clear htm hb5
      go_wp2_with fail
      refine (k6.out).mono ?_
      rintro ee w6 ⟨a6, c6, rfl, ho6, hb6⟩
      have hfin : OrdOkPost w (T.fit u) (T.vldB u.enc) (.returned (.tuple #[.slice a6 (T.fit u).length c6, .bool (T.vldB u.enc)])) w6 :=
        ⟨a6, c6, rfl, Joins.ownsRow_le ho6 Hb5.out.size, Hb5.out.trans (hb6.mono Hb5.out.size)⟩
      have Hfin := Lib.hid hfin
      clear ho6 hb6 hfin
      go_wp2_with fail
      go_ret2
      exact Hfin.out
    · obtain ⟨e1, e2⟩ := T.natRow_bad (xs := xs) (.inr h2)
      rw [e1, e2]
      have H2v := Lib.hid h2
      clear hx hy h1 h2 e1 e2
      go_enter Try.func58, Try.ntmps58
      go_wp2_with fail
      refine (k1.out).mono ?_
      rintro ee w1 ⟨rfl, hb1⟩
      have Hb1 := Lib.hid hb1
      have k2 := Lib.hid (impl_valid a2 n2 c2 ys w1 (HY.out.below hb1) H2v.out)
      clear hb1
      go_wp2_with fail
      refine (k2.out).mono ?_
      rintro ee w2 ⟨rfl, hb2⟩
      have Hb2 := Lib.hid (Hb1.out.trans (hb2.mono Hb1.out.size))
      clear hb2
      go_wp2_with fail
      go_ret2
      exact OrdOkPost.nil (nil_own w w2) Hb2.out
  · have k1 := Lib.hid (impl_valid a1 n1 c1 xs w hx h1)
    obtain ⟨e1, e2⟩ := T.natRow_bad (ys := ys) (.inl h1)
    rw [e1, e2]
    clear hx hy h1 e1 e2
    go_enter Try.func58, Try.ntmps58
    go_wp2_with fail
    refine (k1.out).mono ?_
    rintro ee w1 ⟨rfl, hb1⟩
    have Hb1 := Lib.hid hb1
    clear hb1
    go_wp2_with fail
    go_ret2
    exact OrdOkPost.nil (nil_own w w1) Hb1.out

end Go.Proofs.Ytlbaelehmoidpaa
