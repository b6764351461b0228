/- FnExactHydraOrd: the walk of the law. -/
import Derived.Test.YtigkceenhocidaaTreeO
import Derived.Test.YtigkceenhocidaaHydM
import Derived.Test.YtigkceenhocidaaMark
namespace Go.Proofs.Ytigkceenhocidaa
set_option maxRecDepth 100000
open Go.RowKit

set_option maxHeartbeats 2000000 in
theorem exactHydraOrd_walk (ao : Option Addr) (len cap : Nat) (xs : List Int) (w : World) (h : Sl w ao len cap xs) :
    Calls Try.prog 6 #[.slice ao len cap] w fun e w' => e = .returned (.bool true) ∧ Below w.heap.size w w' := by
  by_cases h20 : len ≤ 1048576
  · have h12 : len ≤ 1000000000000 := by omega
    obtain ⟨r, hr⟩ : ∃ r, r = H.ordRow xs := ⟨_, rfl⟩
    obtain ⟨v, hv⟩ : ∃ v, v = H.ordRowOk xs := ⟨_, rfl⟩
    have hrl : r.length ≤ 1000 := by rw [hr]; exact H.ordRow_len xs
    have hvv : (v != v) = false := by simp
    have HH := Lib.hid h
    have kS := Lib.hid (fun ao cap w (hn : ao = none → len = 0 ∧ cap = 0) hs => spec_HydraOrd ao len cap xs w  hs)
    have kI := Lib.hid (fun ao cap w hs => impl_HydraOrd ao len cap xs w hs)
    unfold OrdOkPost at kS kI
    rw [← hr, ← hv] at kS kI
    clear h hr hv
    have k1 := Lib.hid (toIntS_any ao len cap xs w h12 HH.out)
    go_enter Try.func6, Try.ntmps6
    go_wp2_with fail
    refine (k1.out).mono ?_
    rintro ee w1 ⟨rfl, ho1, hb1⟩
    have k2 := Lib.hid (kS.out _ len w1 (fun h => by cases h) (Sl.of_own ho1))
    have Hb1 := Lib.hid hb1
    clear ho1 hb1
    go_wp2_with fail
    refine (k2.out).mono ?_
    rintro ee w2 ⟨a2, c2, rfl, ho2, hb2⟩
    have Hb2 := Lib.hid (Hb1.out.trans (hb2.mono Hb1.out.size))
    have Ho2 := Lib.hid ho2
    have k3 := Lib.hid (toIntS_any ao len cap xs w2 h12 (HH.out.below Hb2.out))
    clear ho2 hb2
    go_wp2_with fail
    refine (k3.out).mono ?_
    rintro ee w3 ⟨rfl, ho3, hb3⟩
    have Hb3 := Lib.hid (Hb2.out.trans (hb3.mono Hb2.out.size))
    have Ho3 := Lib.hid ho3
    have Ho2a := Lib.hid (ownsRow_below' Ho2.out hb3)
    have Hs3 := Lib.hid (show w2.heap.size < w3.heap.size from (ho3.lt _ rfl).2)
    have Hb23 := Lib.hid hb3
    have k4 := Lib.hid (kI.out _ len w3 (Sl.of_own ho3))
    clear hb3 ho3
    go_wp2_with fail
    refine (k4.out).mono ?_
    rintro ee w4 ⟨a4, c4, rfl, ho4, hb4⟩
    have Hb4 := Lib.hid (Hb3.out.trans (hb4.mono Hb3.out.size))
    have Hb24 := Lib.hid (Hb23.out.trans (hb4.mono Hb23.out.size))
    have Hb34 := Lib.hid hb4
    have Ho4 := Lib.hid ho4
    have Ho3a := Lib.hid (ownsRow_below' Ho3.out hb4)
    have k5 := Lib.hid (eqIntS_any _ _ r.length c4 r.length c2 r r w4 (by omega) (Sl.of_own ho4) (Sl.of_own (ownsRow_below' Ho2.out Hb24.out)))
    clear hb4 ho4
    go_wp2_with fail
    refine (k5.out).mono ?_
    rintro ee w5 ⟨rfl, hb5⟩
    rw [eqB_refl]
    have Hb5 := Lib.hid (Hb4.out.trans (hb5.mono Hb4.out.size))
    have Hb25 := Lib.hid (Hb24.out.trans (hb5.mono Hb24.out.size))
    have Ho4a := Lib.hid (ownsRow_below' Ho4.out hb5)
    have Ho3b := Lib.hid (ownsRow_below' Ho3a.out hb5)
    have k6 := Lib.hid (toIntS_any ao len cap xs w5 h12 (HH.out.below Hb5.out))
    clear hb5
    go_wp2_with fail
    refine (k6.out).mono ?_
    rintro ee w6 ⟨rfl, ho6, hb6⟩
    have Hb6 := Lib.hid (Hb5.out.trans (hb6.mono Hb5.out.size))
    have Hb26 := Lib.hid (Hb25.out.trans (hb6.mono Hb25.out.size))
    have Ho4b := Lib.hid (ownsRow_below' Ho4a.out hb6)
    have Ho3c := Lib.hid (ownsRow_below' Ho3b.out hb6)
    have k7 := Lib.hid (eqIntS_any _ _ len len len len xs xs w6 h12 (Sl.of_own Ho3c.out) (Sl.of_own ho6))
    clear hb6 ho6
    go_wp2_with fail
    refine (k7.out).mono ?_
    rintro ee w7 ⟨rfl, hb7⟩
    rw [eqB_refl]
    have Hb7 := Lib.hid (Hb6.out.trans (hb7.mono Hb6.out.size))
    have Hb27 := Lib.hid (Hb26.out.trans (hb7.mono Hb26.out.size))
    have Ho4c := Lib.hid (ownsRow_below' Ho4b.out hb7)
    have Ho3d := Lib.hid (ownsRow_below' Ho3c.out hb7)
    have k8 := Lib.hid (markIntS_any w2.heap.size (some ⟨w2.heap.size, 0, none⟩) len len xs 1 w7 (by omega) (by omega) (by omega) Ho3d.out)
    clear hb7
    go_wp2_with fail
    refine (k8.out).mono ?_
    rintro ee w8 ⟨rfl, ho8, hb8, hg8⟩
    have Hb8 := Lib.hid (Hb7.out.trans (hb8.mono Hb2.out.size))
    have Hb28 := Lib.hid (Hb27.out.trans hb8)
    have Ho4d := Lib.hid (Ho4c.out.kept hg8 (by
      refine .inr (fun he => ?_)
      have h1 : w3.heap.size ≤ w2.heap.size := (Ho4c.out.lt _ he).1
      have := Hs3.out
      omega))
    have hge : ¬ ((1 : Int) + len < 0) := by omega
    have k9 := Lib.hid (eqIntS_any _ _ r.length c4 r.length c2 r r w8 (by omega) (Sl.of_own Ho4d.out) (Sl.of_own (ownsRow_below' Ho2.out Hb28.out)))
    clear hb8 ho8 hg8
    go_wp2_with fail
    refine (k9.out).mono ?_
    rintro ee w9 ⟨rfl, hb9⟩
    rw [eqB_refl]
    have Hb9 := Lib.hid (Hb8.out.trans (hb9.mono Hb8.out.size))
    have Hb29 := Lib.hid (Hb28.out.trans (hb9.mono Hb28.out.size))
    have Ho4e := Lib.hid (ownsRow_below' Ho4d.out hb9)
    have k10 := Lib.hid (markIntS_any w3.heap.size a4 r.length c4 r 1 w9 (by omega) (by omega) (by omega) Ho4e.out)
    clear hb9
    go_wp2_with fail
    refine (k10.out).mono ?_
    rintro ee w10 ⟨rfl, ho10, hb10, _⟩
    have Ho10 := Lib.hid ho10
    have Hb10 := Lib.hid (Hb9.out.trans (hb10.mono Hb3.out.size))
    have Hb2A := Lib.hid (Hb29.out.trans (hb10.mono Hb23.out.size))
    have k11 := Lib.hid (heldIntS_any a4 r.length c4 1 w10 (by omega) (by omega) (by omega) (by have := Sl.of_own (xs := marks 1 r.length) ho10; exact this))
    have hge2 : ¬ ((1 : Int) + r.length < 0) := by omega
    have hne : (((1 : Int) + r.length) != ((1 : Int) + r.length)) = false := by simp
    clear ho10 hb10
    go_wp2_with fail
    refine (k11.out).mono ?_
    rintro ee w11 ⟨rfl, hb11⟩
    have Ho11 := Lib.hid (ownsRow_below' Ho10.out hb11)
    have Hb11 := Lib.hid (Hb10.out.trans (hb11.mono Hb10.out.size))
    have Hb2B := Lib.hid (Hb2A.out.trans (hb11.mono Hb2A.out.size))
    have k12 := Lib.hid (toIntS_any ao len cap xs w11 h12 (HH.out.below Hb11.out))
    clear hb11
    go_wp2_with fail
    refine (k12.out).mono ?_
    rintro ee w12 ⟨rfl, ho12, hb12⟩
    have Ho12 := Lib.hid (ownsRow_below' Ho11.out hb12)
    have Hb12 := Lib.hid (Hb11.out.trans (hb12.mono Hb11.out.size))
    have Hb2C := Lib.hid (Hb2B.out.trans (hb12.mono Hb2B.out.size))
    have k13 := Lib.hid (kI.out _ len w12 (Sl.of_own ho12))
    clear ho12 hb12
    go_wp2_with fail
    refine (k13.out).mono ?_
    rintro ee w13 ⟨a13, c13, rfl, ho13, hb13⟩
    have Ho13 := Lib.hid (ownsRow_below' Ho12.out hb13)
    have Hb13 := Lib.hid (Hb12.out.trans (hb13.mono Hb12.out.size))
    have Hb2D := Lib.hid (Hb2C.out.trans (hb13.mono Hb2C.out.size))
    have k14 := Lib.hid (eqIntS_any _ _ r.length c13 r.length c2 r r w13 (by omega) (Sl.of_own ho13) (Sl.of_own (ownsRow_below' Ho2.out Hb2D.out)))
    clear ho13 hb13
    go_wp2_with fail
    refine (k14.out).mono ?_
    rintro ee w14 ⟨rfl, hb14⟩
    rw [eqB_refl]
    have Ho14 := Lib.hid (ownsRow_below' Ho13.out hb14)
    have Hb14 := Lib.hid (Hb13.out.trans (hb14.mono Hb13.out.size))
    have k15 := Lib.hid (heldIntS_any a4 r.length c4 1 w14 (by omega) (by omega) (by omega) (by have := Sl.of_own (xs := marks 1 r.length) Ho14.out; exact this))
    clear hb14
    go_wp2_with fail
    refine (k15.out).mono ?_
    rintro ee w15 ⟨rfl, hb15⟩
    have Hb15 := Lib.hid (Hb14.out.trans (hb15.mono Hb14.out.size))
    clear hb15
    go_wp2_with fail
    go_ret
    exact ⟨rfl, Hb15.out⟩
  · have hgt : (1048576 : Int) < len := by omega
    go_enter Try.func6, Try.ntmps6
    go_wp2_with fail
    go_ret
    exact ⟨rfl, Below.refl _ _⟩

end Go.Proofs.Ytigkceenhocidaa
