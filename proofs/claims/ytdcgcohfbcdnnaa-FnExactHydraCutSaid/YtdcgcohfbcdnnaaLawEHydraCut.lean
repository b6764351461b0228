/- FnExactHydraCut: the walk of the law. -/
import Derived.Test.YtdcgcohfbcdnnaaHydC
import Derived.Test.YtdcgcohfbcdnnaaHydL
import Derived.Test.YtdcgcohfbcdnnaaMark
namespace Go.Proofs.Ytdcgcohfbcdnnaa
set_option maxRecDepth 100000
open Go.RowKit

theorem own_past {w : World} {B e n n' c' size : Nat} {a' : Option Addr} {v : Value} {xs : List Value} (h : w.ownsRow B e size v n xs) (hlt : ∀ g, Value.ownBlock (.slice a' n' c') = some g → g < B) :
    v.ownBlock = none ∨ v.ownBlock ≠ Value.ownBlock (.slice a' n' c') := by
  cases hv : v.ownBlock with
  | none => exact .inl rfl
  | some g =>
    refine .inr (fun he => ?_)
    have h1 := (h.lt g hv).1
    have h2 := hlt g he.symm
    omega

theorem bnd {a : Int} (h : (Lit.int .i64 a).wf = true) : -9223372036854775808 ≤ a ∧ a ≤ 9223372036854775807 := by
  simpa [Lit.wf, IntKind.min, IntKind.max, IntKind.signed, IntKind.bits] using h

set_option maxHeartbeats 4000000 in
theorem exactHydraCut_walk (a1 : Option Addr) (n1 c1 : Nat) (xs : List Int) (V U : Int) (w : World) (h : Sl w a1 n1 c1 xs) (hv0 : -9223372036854775808 ≤ V) (hv1 : V ≤ 9223372036854775807) (hu0 : -9223372036854775808 ≤ U) (hu1 : U ≤ 9223372036854775807) :
    Calls Try.prog 3 #[.slice a1 n1 c1, .int .i64 V, .int .i64 U] w fun e w' => e = .returned (.bool true) ∧ Below w.heap.size w w' := by
  by_cases h20 : n1 ≤ 1048576
  · have h12 : n1 ≤ 1000000000000 := by omega
    have HH := Lib.hid h
    obtain ⟨r, hr⟩ : ∃ r, r = H.cutRow xs V U := ⟨_, rfl⟩
    have hrl : r.length ≤ 1000 := by rw [hr]; exact H.cutRow_len xs V U
    obtain ⟨o, hq⟩ : ∃ o, o = H.cutOkB xs V U := ⟨_, rfl⟩
    have Hr := Lib.hid hr
    have Ho := Lib.hid hq
    clear h hr hq
    go_enter Try.func3, Try.ntmps3
    have k1 := Lib.hid (toIntS_any a1 n1 c1 xs w h12 HH.out)
    go_wp2_with fail
    refine (k1.out).mono ?_
    rintro ee w101 ⟨rfl, ho, hb1⟩
    have hsz1 := hb1.size
    have Hb1 := Lib.hid hb1
    have OA11 := Lib.hid ho
    clear hb1 ho
    have k2 := Lib.hid (spec_HydraCut (some ⟨w.heap.size, 0, none⟩) n1 n1 xs V U w101 (Sl.of_own OA11.out) hv0 hv1 hu0 hu1)
    unfold OrdOkPost at k2
    rw [← Hr.out, ← Ho.out] at k2
    go_wp2_with fail
    refine (k2.out).mono ?_
    rintro ee wW ⟨aW, cW, rfl, ho, hbW⟩
    have hszW := hbW.size
    have HW := Lib.hid (Sl.of_own ho)
    have Hb2 := Lib.hid (Hb1.out.trans (hbW.mono (by have h1 := Hb1.out.size; omega)))
    have HcW := Lib.hid (Below.refl wW.heap.size wW)
    have hwW : w.heap.size ≤ wW.heap.size := Hb2.out.size
    clear ho hbW
    have k3 := Lib.hid (toIntS_any a1 n1 c1 xs wW h12 (HH.out.below Hb2.out))
    go_wp2_with fail
    refine (k3.out).mono ?_
    rintro ee w103 ⟨rfl, ho, hb3⟩
    have hsz3 := hb3.size
    have Hb3 := Lib.hid (Hb2.out.trans (hb3.mono (by have h1 := Hb2.out.size; omega)))
    have Hc3 := Lib.hid (HcW.out.trans (hb3.mono (by have h1 := HcW.out.size; omega)))
    have hltX0 := (ho.lt _ rfl).2
    have OX03 := Lib.hid ho
    clear hb3 ho
    have hw1 : wW.heap.size ≤ w103.heap.size := Hc3.out.size
    have k4 := Lib.hid (impl_HydraCut (some ⟨wW.heap.size, 0, none⟩) n1 n1 xs V U w103 (Sl.of_own OX03.out) hv0 hv1 hu0 hu1)
    unfold OrdOkPost at k4
    rw [← Hr.out, ← Ho.out] at k4
    go_wp2_with fail
    refine (k4.out).mono ?_
    rintro ee w104 ⟨aG, cG, rfl, ho, hb4⟩
    have hsz4 := hb4.size
    have Hb4 := Lib.hid (Hb3.out.trans (hb4.mono (by have h1 := Hb3.out.size; omega)))
    have Hc4 := Lib.hid (Hc3.out.trans (hb4.mono (by have h1 := Hc3.out.size; omega)))
    have OX04 := Lib.hid (ownsRow_below' OX03.out hb4)
    have OG4 := Lib.hid ho
    clear hb4 ho
    have k5 := Lib.hid (eqIntS_any aG aW r.length cG r.length cW r r w104 (by omega) (Sl.of_own OG4.out) (HW.out.below Hc4.out))
    rw [eqB_refl] at k5
    go_wp2_with fail
    refine (k5.out).mono ?_
    rintro ee w105 ⟨rfl, hb5⟩
    have hsz5 := hb5.size
    have Hb5 := Lib.hid (Hb4.out.trans (hb5.mono (by have h1 := Hb4.out.size; omega)))
    have Hc5 := Lib.hid (Hc4.out.trans (hb5.mono (by have h1 := Hc4.out.size; omega)))
    have OX05 := Lib.hid (ownsRow_below' OX04.out hb5)
    have OG5 := Lib.hid (ownsRow_below' OG4.out hb5)
    clear hb5
    have k6 := Lib.hid (toIntS_any a1 n1 c1 xs w105 h12 (HH.out.below Hb5.out))
    go_wp2_with fail
    refine (k6.out).mono ?_
    rintro ee w106 ⟨rfl, ho, hb6⟩
    have hsz6 := hb6.size
    have Hb6 := Lib.hid (Hb5.out.trans (hb6.mono (by have h1 := Hb5.out.size; omega)))
    have Hc6 := Lib.hid (Hc5.out.trans (hb6.mono (by have h1 := Hc5.out.size; omega)))
    have OX06 := Lib.hid (ownsRow_below' OX05.out hb6)
    have OG6 := Lib.hid (ownsRow_below' OG5.out hb6)
    have OA26 := Lib.hid ho
    clear hb6 ho
    have k7 := Lib.hid (eqIntS_any (some ⟨wW.heap.size, 0, none⟩) (some ⟨w105.heap.size, 0, none⟩) n1 n1 n1 n1 xs xs w106 (by omega) (Sl.of_own OX06.out) (Sl.of_own OA26.out))
    rw [eqB_refl] at k7
    go_wp2_with fail
    refine (k7.out).mono ?_
    rintro ee w107 ⟨rfl, hb7⟩
    have hsz7 := hb7.size
    have Hb7 := Lib.hid (Hb6.out.trans (hb7.mono (by have h1 := Hb6.out.size; omega)))
    have Hc7 := Lib.hid (Hc6.out.trans (hb7.mono (by have h1 := Hc6.out.size; omega)))
    have OX07 := Lib.hid (ownsRow_below' OX06.out hb7)
    have OG7 := Lib.hid (ownsRow_below' OG6.out hb7)
    have OA27 := Lib.hid (ownsRow_below' OA26.out hb7)
    clear hb7
    have k8 := Lib.hid (markIntS_any wW.heap.size (some ⟨wW.heap.size, 0, none⟩) n1 n1 xs 1 w107 (by omega) (by omega) (by omega) OX07.out)
    go_wp2_with fail
    refine (k8.out).mono ?_
    rintro ee w108 ⟨rfl, ho, hb8, hg8⟩
    have hsz8 := hg8.size
    have Hb8 := Lib.hid (Hb7.out.trans (hb8.mono (by omega)))
    have Hc8 := Lib.hid (Hc7.out.trans (hb8.mono (by omega)))
    have OG8 := Lib.hid (OG7.out.kept hg8 (own_past (B := w103.heap.size) OG7.out (fun g e => by cases e; (try dsimp only); omega)))
    have OX08 := Lib.hid ho
    clear ho hb8 hg8
    have hge : ¬ ((1 : Int) + n1 < 0) := by omega
    have k9 := Lib.hid (eqIntS_any aG aW r.length cG r.length cW r r w108 (by omega) (Sl.of_own OG8.out) (HW.out.below Hc8.out))
    rw [eqB_refl] at k9
    go_wp2_with fail
    refine (k9.out).mono ?_
    rintro ee w109 ⟨rfl, hb9⟩
    have hsz9 := hb9.size
    have Hb9 := Lib.hid (Hb8.out.trans (hb9.mono (by have h1 := Hb8.out.size; omega)))
    have Hc9 := Lib.hid (Hc8.out.trans (hb9.mono (by have h1 := Hc8.out.size; omega)))
    have OG9 := Lib.hid (ownsRow_below' OG8.out hb9)
    clear hb9
    have k10 := Lib.hid (markIntS_any w103.heap.size aG r.length cG r 1 w109 (by omega) (by omega) (by omega) OG9.out)
    go_wp2_with fail
    refine (k10.out).mono ?_
    rintro ee w110 ⟨rfl, ho, hb10, hg10⟩
    have hsz10 := hg10.size
    have Hb10 := Lib.hid (Hb9.out.trans (hb10.mono (by omega)))
    have Hc10 := Lib.hid (Hc9.out.trans (hb10.mono (by omega)))
    have OG10 := Lib.hid ho
    clear ho hb10 hg10
    have hge2 : ¬ ((1 : Int) + r.length < 0) := by omega
    have hne : (((1 : Int) + r.length) != ((1 : Int) + r.length)) = false := by simp
    have k11 := Lib.hid (heldIntS_any aG r.length cG 1 w110 (by omega) (by omega) (by omega) (Sl.of_own OG10.out))
    go_wp2_with fail
    refine (k11.out).mono ?_
    rintro ee w111 ⟨rfl, hb11⟩
    have hsz11 := hb11.size
    have Hb11 := Lib.hid (Hb10.out.trans (hb11.mono (by have h1 := Hb10.out.size; omega)))
    have Hc11 := Lib.hid (Hc10.out.trans (hb11.mono (by have h1 := Hc10.out.size; omega)))
    have OG11 := Lib.hid (ownsRow_below' OG10.out hb11)
    clear hb11
    have k12 := Lib.hid (toIntS_any a1 n1 c1 xs w111 h12 (HH.out.below Hb11.out))
    go_wp2_with fail
    refine (k12.out).mono ?_
    rintro ee w112 ⟨rfl, ho, hb12⟩
    have hsz12 := hb12.size
    have Hb12 := Lib.hid (Hb11.out.trans (hb12.mono (by have h1 := Hb11.out.size; omega)))
    have Hc12 := Lib.hid (Hc11.out.trans (hb12.mono (by have h1 := Hc11.out.size; omega)))
    have OG12 := Lib.hid (ownsRow_below' OG11.out hb12)
    have OA312 := Lib.hid ho
    clear hb12 ho
    have k13 := Lib.hid (impl_HydraCut (some ⟨w111.heap.size, 0, none⟩) n1 n1 xs V U w112 (Sl.of_own OA312.out) hv0 hv1 hu0 hu1)
    unfold OrdOkPost at k13
    rw [← Hr.out, ← Ho.out] at k13
    go_wp2_with fail
    refine (k13.out).mono ?_
    rintro ee w113 ⟨aH, cH, rfl, ho, hb13⟩
    have hsz13 := hb13.size
    have Hb13 := Lib.hid (Hb12.out.trans (hb13.mono (by have h1 := Hb12.out.size; omega)))
    have Hc13 := Lib.hid (Hc12.out.trans (hb13.mono (by have h1 := Hc12.out.size; omega)))
    have OG13 := Lib.hid (ownsRow_below' OG12.out hb13)
    have OA313 := Lib.hid (ownsRow_below' OA312.out hb13)
    have OH13 := Lib.hid ho
    clear hb13 ho
    have k14 := Lib.hid (eqIntS_any aH aW r.length cH r.length cW r r w113 (by omega) (Sl.of_own OH13.out) (HW.out.below Hc13.out))
    rw [eqB_refl] at k14
    go_wp2_with fail
    refine (k14.out).mono ?_
    rintro ee w114 ⟨rfl, hb14⟩
    have hsz14 := hb14.size
    have Hb14 := Lib.hid (Hb13.out.trans (hb14.mono (by have h1 := Hb13.out.size; omega)))
    have Hc14 := Lib.hid (Hc13.out.trans (hb14.mono (by have h1 := Hc13.out.size; omega)))
    have OG14 := Lib.hid (ownsRow_below' OG13.out hb14)
    have OA314 := Lib.hid (ownsRow_below' OA313.out hb14)
    have OH14 := Lib.hid (ownsRow_below' OH13.out hb14)
    clear hb14
    have k15 := Lib.hid (heldIntS_any aG r.length cG 1 w114 (by omega) (by omega) (by omega) (Sl.of_own OG14.out))
    go_wp2_with fail
    refine (k15.out).mono ?_
    rintro ee w115 ⟨rfl, hb15⟩
    have hsz15 := hb15.size
    have Hb15 := Lib.hid (Hb14.out.trans (hb15.mono (by have h1 := Hb14.out.size; omega)))
    have Hc15 := Lib.hid (Hc14.out.trans (hb15.mono (by have h1 := Hc14.out.size; omega)))
    have OG15 := Lib.hid (ownsRow_below' OG14.out hb15)
    have OA315 := Lib.hid (ownsRow_below' OA314.out hb15)
    have OH15 := Lib.hid (ownsRow_below' OH14.out hb15)
    clear hb15
    go_wp2_with fail
    go_ret
    exact ⟨rfl, Hb15.out⟩
  · have hgt : (1048576 : Int) < n1 := by omega
    go_enter Try.func3, Try.ntmps3
    go_wp2_with fail
    go_ret
    exact ⟨rfl, Below.refl _ _⟩

end Go.Proofs.Ytdcgcohfbcdnnaa
