/- FnExactTradesValid: the walk of the law. -/
import Derived.Test.YtjkkopjmpmbapaaTrT
namespace Go.Proofs.Ytjkkopjmpmbapaa
set_option maxRecDepth 100000
open Go.RowKit

theorem szTs_bl {ts : List Tr} {m : Nat} (h : szTs ts ≤ m) : ∀ t ∈ ts, t.take.length ≤ m ∧ t.give.length ≤ m := fun _ ht => by have := szTs_mem ht; omega

set_option maxHeartbeats 1000000 in
theorem exactTradesValid_walk (ao : Option Addr) (n c : Nat) (ts : List Tr) (w : World) (h : SlT w ao n c ts) :
    Calls Try.prog 4 #[.slice ao n c] w fun e w' => e = .returned (.bool true) ∧ Below w.heap.size w w' := by
  have k0 := Lib.hid (szTradeS_any ao n c ts 1048576 w h (by decide) (by decide))
  have H := Lib.hid h
  clear h
  by_cases hsz : n + szTs ts ≤ 1048576
  · rw [szI_yes (by omega)] at k0
    have hge : ¬ ((1048576 : Int) - ((n + szTs ts : Nat) : Int) < 0) := by omega
    have hn : n ≤ 1048576 := by omega
    have hbl := Lib.hid (szTs_bl (show szTs ts ≤ 1048576 by omega))
    obtain ⟨z, hz⟩ : ∃ z, z = (1048576 : Int) - ((n + szTs ts : Nat) : Int) := ⟨_, rfl⟩
    rw [← hz] at k0 hge
    clear hz hsz
    go_enter Try.func4, Try.ntmps4
    go_wp2_with fail
    refine (k0.out).mono ?_
    rintro ee w0 ⟨rfl, hb0⟩
    have Hb0 := Lib.hid hb0
    have k1 := Lib.hid (toTradeS_any ao n c ts w0 hn hbl.out (H.out.below hb0))
    clear hb0
    go_wp2_with fail
    refine (k1.out).mono ?_
    rintro ee w1 ⟨v1, rfl, hc1, hb1⟩
    obtain ⟨g1, rfl, s1⟩ := hc1.parts
    have k2 := Lib.hid (spec_TradesValid _ n n ts w1 hn s1)
    have Hb1 := Lib.hid (Hb0.out.trans (hb1.mono Hb0.out.size))
    clear hc1 hb1 s1
    go_wp2_with fail
    refine (k2.out).mono ?_
    rintro ee w2 ⟨rfl, hb2⟩
    have Hb2 := Lib.hid (Hb1.out.trans (hb2.mono Hb1.out.size))
    have k3 := Lib.hid (toTradeS_any ao n c ts w2 hn hbl.out (H.out.below Hb2.out))
    obtain ⟨o, ho⟩ : ∃ o, o = tradesB ts := ⟨_, rfl⟩
    rw [← ho]
    have Ho := Lib.hid ho
    clear hb2 ho
    go_wp2_with fail
    refine (k3.out).mono ?_
    rintro ee w3 ⟨v3, rfl, hc3, hb3⟩
    obtain ⟨g3, rfl, s3⟩ := hc3.parts
    have k4 := Lib.hid (impl_TradesValid _ n n ts w3 hn hbl.out s3)
    rw [← Ho.out] at k4
    have Hb3 := Lib.hid (Hb2.out.trans (hb3.mono Hb2.out.size))
    have S3 := Lib.hid s3
    clear hc3 hb3 s3
    go_wp2_with fail
    refine (k4.out).mono ?_
    rintro ee w4 ⟨rfl, hb4⟩
    have Hb4 := Lib.hid (Hb3.out.trans (hb4.mono Hb3.out.size))
    have S4 := Lib.hid (S3.out.below hb4)
    have hne : (o != o) = false := by simp
    have k5 := Lib.hid (toTradeS_any ao n c ts w4 hn hbl.out (H.out.below Hb4.out))
    clear hb4
    go_wp2_with fail
    refine (k5.out).mono ?_
    rintro ee w5 ⟨v5, rfl, hc5, hb5⟩
    obtain ⟨g5, rfl, s5⟩ := hc5.parts
    have k6 := Lib.hid (eqTradeS_same _ _ n n n ts w5 hn hbl.out (S4.out.below hb5) s5)
    have Hb5 := Lib.hid (Hb4.out.trans (hb5.mono Hb4.out.size))
    clear hc5 hb5 s5
    go_wp2_with fail
    refine (k6.out).mono ?_
    rintro ee w6 ⟨rfl, hb6⟩
    have Hb6 := Lib.hid (Hb5.out.trans (hb6.mono Hb5.out.size))
    clear hb6
    go_wp2_with fail
    go_ret
    exact ⟨rfl, Hb6.out⟩
  · rw [szI_no (by omega)] at k0
    go_enter Try.func4, Try.ntmps4
    go_wp2_with fail
    refine (k0.out).mono ?_
    rintro ee w0 ⟨rfl, hb0⟩
    have Hb0 := Lib.hid hb0
    clear hb0
    go_wp2_with fail
    go_ret
    exact ⟨rfl, Hb0.out⟩

end Go.Proofs.Ytjkkopjmpmbapaa
