/- FnTradeValid: the walk of the law. -/
import Derived.Test.YtgcdbndnpcfcnaaDrawTu
namespace Go.Proofs.Ytgcdbndnpcfcnaa
set_option maxRecDepth 100000
open Go.RowKit

set_option maxHeartbeats 4000000 in
theorem fnTradeValid_walk (a : Option Addr) (len cap : Nat) (w : World) (h : By w a len cap) :
    Calls Try.prog 3 #[.slice a len cap] w fun e w' => e = .returned (.bool true) ∧ Below w.heap.size w w' := by
  have hlm : len ≤ 9223372036854775807 := by have := h.1; have := h.2.1; unfold maxLen at this; omega
  by_cases hbig : 1048576 < len
  · clear h
    go_enter Try.func3, Try.ntmps3
    go_wp2_with fail
    go_ret
    exact ⟨rfl, Below.refl _ _⟩
  have k0 := Lib.hid (drawTradeValid_any a len cap w h)
  clear h
  go_enter Try.func3, Try.ntmps3
  go_wp2_with fail
  refine (k0.out).mono ?_
  rintro ee w1 ⟨t, a1, a2, n1, n2, c1, c2, rfl, s1, s2, hn1, hn2, hb0⟩
  obtain ⟨W, hW, hB, hbW, hsW⟩ := box_two w1 (.slice a1 n1 c1) (.slice a2 n2 c2) 25
  have k1 := Lib.hid (iTradeValid_any a1 a2 n1 c1 n2 c2 t W (by omega) (by omega) (s1.below hbW) (s2.below hbW))
  obtain ⟨o, ho⟩ : ∃ o, o = tradeB t := ⟨_, rfl⟩
  rw [← ho] at k1
  have Ho := Lib.hid ho
  have S1 := Lib.hid (s1.below hbW)
  have S2 := Lib.hid (s2.below hbW)
  have HB := Lib.hid hB
  have Hs := Lib.hid (show w1.heap.size < W.heap.size by omega)
  have Hb0 := Lib.hid (hb0.trans (hbW.mono hb0.size))
  have x0 := hB.c0
  have x1 := hB.c1
  clear s1 s2 hB hbW hsW hb0 ho
  go_wp2_with fail
  refine (k1.out).mono ?_
  rintro ee w2 ⟨rfl, hb2⟩
  have k2 := Lib.hid (sTradeValid_any a1 a2 n1 c1 n2 c2 t w2 (S1.out.below hb2) (S2.out.below hb2))
  rw [← Ho.out] at k2
  have S12 := Lib.hid (S1.out.below hb2)
  have S22 := Lib.hid (S2.out.below hb2)
  have HB2 := Lib.hid (HB.out.below hb2 Hs.out)
  have Hs2 := Lib.hid (Nat.lt_of_lt_of_le Hs.out hb2.size)
  have Hb2 := Lib.hid (Hb0.out.trans (hb2.mono Hb0.out.size))
  have y0 := HB2.out.c0
  have y1 := HB2.out.c1
  have hne : (o != o) = false := by simp
  have hee : (o == o) = true := by simp
  clear hb2 x0 x1
  go_wp2_with fail
  refine (k2.out).mono ?_
  rintro ee w3 ⟨rfl, hb3⟩
  have k3 := Lib.hid (iTradeValid_any a2 a1 n2 c2 n1 c1 t.turn w3 (by omega) (by omega) (S22.out.below hb3) (S12.out.below hb3))
  rw [tradeB_turn, ← Ho.out] at k3
  have HB3 := Lib.hid (HB2.out.below hb3 Hs2.out)
  have Hb3 := Lib.hid (Hb2.out.trans (hb3.mono Hb2.out.size))
  have z0 := HB3.out.c0
  have z1 := HB3.out.c1
  clear hb3 y0 y1
  go_wp2_with fail
  refine (k3.out).mono ?_
  rintro ee w4 ⟨rfl, hb4⟩
  have k4 := Lib.hid (alive_any w4)
  have Hb4 := Lib.hid (Hb3.out.trans (hb4.mono Hb3.out.size))
  clear hb4
  go_wp2_with fail
  refine (k4.out).mono ?_
  rintro ee w5 ⟨rfl, hb5⟩
  have Hb5 := Lib.hid (Hb4.out.trans (hb5.mono Hb4.out.size))
  clear hb5
  go_wp2_with fail
  go_ret
  exact ⟨rfl, Hb5.out⟩

end Go.Proofs.Ytgcdbndnpcfcnaa
