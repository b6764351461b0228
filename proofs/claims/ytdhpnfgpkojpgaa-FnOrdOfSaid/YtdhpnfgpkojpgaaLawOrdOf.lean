/- FnOrdOf: the walk of the law. -/
import Derived.Test.YtdhpnfgpkojpgaaDrawOf
import Derived.Test.YtdhpnfgpkojpgaaFn2
import Derived.Test.YtdhpnfgpkojpgaaNext
import Derived.Test.YtdhpnfgpkojpgaaLawEOrdOf
namespace Go.Proofs.Ytdhpnfgpkojpgaa
open Go.RowKit

theorem num_nf {n : Int} (h : 1 ≤ n) (h2 : n ≤ 9999) : (T.c n .z .z).Nf := ⟨h, h2, trivial, trivial, T.ok_z _⟩
theorem num_facts {n : Int} (h : 0 ≤ n) (h2 : n ≤ 9999) :
    T.vldB (T.num' n) = true ∧ T.numRow (T.num' n) = n ∧ T.nextOk (T.num' n) = decide (n < 9999) ∧ (n < 9999 → T.nextRow (T.num' n) = T.num' (n + 1)) := by
  by_cases h0 : n = 0
  · subst h0
    have e : T.num' 0 = (T.z).enc := rfl
    have v : T.vldB (T.z).enc = true := T.vld_mk trivial (by decide)
    have v1 : T.vldB (T.c 1 .z .z).enc = true := T.vld_mk (num_nf (by decide) (by decide)) (by decide)
    have nx : (T.z).next = T.c 1 .z .z := rfl
    refine ⟨by rw [e]; exact v, ?_, ?_, fun _ => ?_⟩
    · rw [e, T.numRow, if_pos v, T.of_enc]; rfl
    · rw [e, T.nextOk, v, T.of_enc, nx, v1]; rfl
    · rw [e, T.nextRow, if_pos v, T.of_enc, nx, T.fit, if_pos v1]; rfl
  · have e : T.num' n = (T.c n .z .z).enc := T.num'_enc (by omega) h2
    have v : T.vldB (T.c n .z .z).enc = true := T.vld_mk (num_nf (by omega) h2) (by simp [T.enc, T.body])
    have nx : (T.c n .z .z).next = T.c (n + 1) .z .z := rfl
    by_cases h9 : n < 9999
    · have v1 : T.vldB (T.c (n + 1) .z .z).enc = true := T.vld_mk (num_nf (by omega) (by omega)) (by simp [T.enc, T.body])
      refine ⟨by rw [e]; exact v, ?_, ?_, fun _ => ?_⟩
      · rw [e, T.numRow, if_pos v, T.of_enc]; rfl
      · rw [e, T.nextOk, v, T.of_enc, nx, v1]; simp [h9]
      · rw [e, T.nextRow, if_pos v, T.of_enc, nx, T.fit, if_pos v1, T.num'_enc (by omega) (by omega)]
    · have v1 : T.vldB (T.c (n + 1) .z .z).enc = false := by
        rw [T.vldB_false]
        rintro ⟨_, t, ht, hn⟩
        have := T.enc_inj' ht
        rw [← this] at hn
        have := hn.2.1
        omega
      refine ⟨by rw [e]; exact v, ?_, ?_, fun hc => absurd hc h9⟩
      · rw [e, T.numRow, if_pos v, T.of_enc]; rfl
      · rw [e, T.nextOk, v, T.of_enc, nx, v1]; simp [h9]

theorem num_out {n : Int} (h : n < 0 ∨ 9999 < n) : T.num' n = [] := by rw [T.num', if_pos h]

set_option maxHeartbeats 2000000 in
theorem fnOrdOf_walk (a : Option Addr) (len cap : Nat) (w : World) (h : By w a len cap) :
    Calls Try.prog 4 #[.slice a len cap] w fun e w' => e = .returned (.bool true) ∧ Below w.heap.size w w' := by
  have hlm : len ≤ 9223372036854775807 := by have := h.1; have := h.2.1; unfold maxLen at this; omega
  by_cases hbig : 1048576 < len
  · clear h
    go_enter Try.func4, Try.ntmps4
    go_wp2_with fail
    go_ret
    exact ⟨rfl, Below.refl _ _⟩
  have k0 := Lib.hid (drawOf_any a len cap w h)
  clear h
  go_enter Try.func4, Try.ntmps4
  go_wp2_with fail
  refine (k0.out).mono ?_
  rintro ee w1 ⟨n, rfl, hn0, hn1, hb1⟩
  have Hb1 := Lib.hid hb1
  obtain ⟨r, hr⟩ : ∃ r, r = T.num' n := ⟨_, rfl⟩
  have hrl : r.length ≤ 3 := by rw [hr]; exact num'_len n
  have k1 := Lib.hid (impl_OrdOf n w1 (by omega) (by omega))
  have k2 := Lib.hid (fun w => spec_OrdOf n w (by omega) (by omega))
  rw [← hr] at k1 k2
  have HR := Lib.hid hr
  clear hr hb1
  go_wp2_with fail
  refine (k1.out).mono ?_
  rintro ee w2 ⟨a1, c1, rfl, ho1, hb2⟩
  have Ho1 := Lib.hid ho1
  have Hb2 := Lib.hid (Hb1.out.trans (hb2.mono Hb1.out.size))
  clear ho1 hb2
  go_wp2_with fail
  refine (k2.out _).mono ?_
  rintro ee w3 ⟨a2, c2, rfl, ho2, hb3⟩
  have k3 := Lib.hid (sameInts_any a1 a2 r.length c1 r.length c2 r r w3 (by omega) (Sl.of_own (ownsRow_below' Ho1.out hb3)) (Sl.of_own ho2))
  have Ho1b := Lib.hid (ownsRow_below' Ho1.out hb3)
  have Hb3 := Lib.hid (Hb2.out.trans (hb3.mono Hb2.out.size))
  clear ho2 hb3
  go_wp2_with fail
  refine (k3.out).mono ?_
  rintro ee w4 ⟨rfl, hb4⟩
  rw [eqB_refl]
  have Ho1c := Lib.hid (ownsRow_below' Ho1b.out hb4)
  have Hb4 := Lib.hid (Hb3.out.trans (hb4.mono Hb3.out.size))
  clear hb4
  by_cases hlo : n < 0
  · have hz : r.length = 0 := by rw [HR.out, num_out (.inl hlo)]; rfl
    have k5 := Lib.hid (alive_any w4)
    rw [hz]
    go_wp2_with fail
    refine (k5.out).mono ?_
    rintro ee w5 ⟨rfl, hb5⟩
    have Hb5 := Lib.hid (Hb4.out.trans (hb5.mono Hb4.out.size))
    clear hb5
    go_wp2_with fail
    go_ret
    exact ⟨rfl, Hb5.out⟩
  by_cases hhi : 9999 < n
  · have hz : r.length = 0 := by rw [HR.out, num_out (.inr hhi)]; rfl
    have k5 := Lib.hid (alive_any w4)
    rw [hz]
    go_wp2_with fail
    refine (k5.out).mono ?_
    rintro ee w5 ⟨rfl, hb5⟩
    have Hb5 := Lib.hid (Hb4.out.trans (hb5.mono Hb4.out.size))
    clear hb5
    go_wp2_with fail
    go_ret
    exact ⟨rfl, Hb5.out⟩
  obtain ⟨f1, f2, f3, f4⟩ := num_facts (n := n) (by omega) (by omega)
  rw [← HR.out] at f1 f2 f3 f4
  have F1 := Lib.hid f1
  have F2 := Lib.hid f2
  have F4 := Lib.hid f4
  have k5 := Lib.hid (impl_OrdNext a1 r.length c1 r w4 (Sl.of_own Ho1c.out))
  rw [f3] at k5
  obtain ⟨m, hm⟩ : ∃ m, m = T.nextRow r := ⟨_, rfl⟩
  have hml : m.length ≤ 1000 := by rw [hm]; exact T.nextRow_len r
  rw [← hm] at k5 F4
  have hdd : (decide (n < 9999) == decide (n < 9999)) = true := by simp
  clear f1 f2 f3 f4 hm
  go_wp2_with fail
  refine (k5.out).mono ?_
  rintro ee w5 ⟨a3, c3, rfl, ho3, hb5⟩
  have k6 := Lib.hid (impl_valid a1 r.length c1 r w5 (Sl.of_own (ownsRow_below' Ho1c.out hb5)) F1.out)
  have Ho1d := Lib.hid (ownsRow_below' Ho1c.out hb5)
  have Hb5 := Lib.hid (Hb4.out.trans (hb5.mono Hb4.out.size))
  have Ho3 := Lib.hid ho3
  clear ho3 hb5
  go_wp2_with fail
  refine (k6.out).mono ?_
  rintro ee w6 ⟨rfl, hb6⟩
  have k7 := Lib.hid (impl_OrdNumber a1 r.length c1 r w6 (Sl.of_own (ownsRow_below' Ho1d.out hb6)))
  rw [F2.out] at k7
  have Ho3b := Lib.hid (ownsRow_below' Ho3.out hb6)
  have Hb6 := Lib.hid (Hb5.out.trans (hb6.mono Hb5.out.size))
  clear hb6
  go_wp2_with fail
  refine (k7.out).mono ?_
  rintro ee w7 ⟨rfl, hb7⟩
  have Ho3c := Lib.hid (ownsRow_below' Ho3b.out hb7)
  have Hb7 := Lib.hid (Hb6.out.trans (hb7.mono Hb6.out.size))
  clear hb7
  by_cases h9 : n < 9999
  · have hme : m = T.num' (n + 1) := F4.out h9
    have k8 := Lib.hid (impl_OrdOf (n + 1) w7 (by omega) (by omega))
    rw [← hme] at k8
    have HM := Lib.hid hme
    clear hme
    go_wp2_with fail
    refine (k8.out).mono ?_
    rintro ee w8 ⟨a4, c4, rfl, ho4, hb8⟩
    have k9 := Lib.hid (sameInts_any a3 a4 m.length c3 m.length c4 m m w8 (by omega) (Sl.of_own (ownsRow_below' Ho3c.out hb8)) (Sl.of_own ho4))
    have Hb8 := Lib.hid (Hb7.out.trans (hb8.mono Hb7.out.size))
    clear ho4 hb8
    go_wp2_with fail
    refine (k9.out).mono ?_
    rintro ee w9 ⟨rfl, hb9⟩
    rw [eqB_refl]
    have Hb9 := Lib.hid (Hb8.out.trans (hb9.mono Hb8.out.size))
    clear hb9
    go_wp2_with fail
    go_ret
    exact ⟨rfl, Hb9.out⟩
  · go_wp2_with fail
    go_ret
    exact ⟨rfl, Hb7.out⟩

end Go.Proofs.Ytdhpnfgpkojpgaa
