/- FnExactBagPut: the walk of the law. -/
import Derived.Test.YtgkcpmhgmhioiaaBagS
import Derived.Test.YtgkcpmhgmhioiaaBagR
import Derived.Test.YtgkcpmhgmhioiaaMark
namespace Go.Proofs.Ytgkcpmhgmhioiaa
set_option maxRecDepth 100000
open Go.RowKit

theorem own_past {w : World} {B e n n' c' size : Nat} {a' : Option Addr} {v : Value} {xs : List Value} (h : w.ownsRow B e size v n xs) (hlt : ∀ g, Value.ownBlock (.slice a' n' c') = some g → g < B) :
    v.ownBlock = none ∨ v.ownBlock ≠ Value.ownBlock (.slice a' n' c') := by
  cases hv : v.ownBlock with
  | none => exact .inl rfl
  | some g =>
    refine .inr (fun he => ?_)
    have h1 := (h.lt g hv).1
    have h2 := hlt g he.symm
    omega

theorem bnd {a : Int} (h : (Lit.int .i64 a).wf = true) : -9223372036854775808 ≤ a ∧ a ≤ 9223372036854775807 := by
  simpa [Lit.wf, IntKind.min, IntKind.max, IntKind.signed, IntKind.bits] using h

set_option maxHeartbeats 4000000 in
theorem exactBagPut_walk (a1 : Option Addr) (n1 c1 : Nat) (xs : List Int) (V : Int) (a2 : Option Addr) (n2 c2 : Nat) (ys : List Int) (w : World) (h1 : Sl w a1 n1 c1 xs) (hV0 : -9223372036854775808 ≤ V) (hV1 : V ≤ 9223372036854775807) (h2 : Sl w a2 n2 c2 ys) :
    Calls Try.prog 9 #[.slice a1 n1 c1, .int .i64 V, .slice a2 n2 c2] w fun e w' => e = .returned (.bool true) ∧ Below w.heap.size w w' := by
  by_cases hg1 : n1 ≤ 1048576
  · by_cases hg2 : n2 ≤ 1048576
    · have hs1 : n1 ≤ 1000000000000 := by omega
      have H1 := Lib.hid h1
      have hs2 : n2 ≤ 1000000000000 := by omega
      have H2 := Lib.hid h2
      obtain ⟨r, hr⟩ : ∃ r, r = putRow xs V ys := ⟨_, rfl⟩
      have hrl : r.length ≤ 1000 := by rw [hr]; exact putRow_len xs V ys
      have Hr := Lib.hid hr
      obtain ⟨o, hq⟩ : ∃ o, o = putOk xs V ys := ⟨_, rfl⟩
      have Ho := Lib.hid hq
      clear h1 h2 hr hq
      go_enter Try.func9, Try.ntmps9
      have k1 := Lib.hid (toIntS_any a1 n1 c1 xs w hs1 H1.out)
      go_wp2_with fail
      refine (k1.out).mono ?_
      rintro ee w101 ⟨rfl, ho, hb1⟩
      have hsz1 := hb1.size
      have Hb1 := Lib.hid hb1
      have OS11 := Lib.hid ho
      clear hb1 ho
      have k2 := Lib.hid (toIntS_any a2 n2 c2 ys w101 hs2 (H2.out.below Hb1.out))
      go_wp2_with fail
      refine (k2.out).mono ?_
      rintro ee w102 ⟨rfl, ho, hb2⟩
      have hsz2 := hb2.size
      have Hb2 := Lib.hid (Hb1.out.trans (hb2.mono (by have h1 := Hb1.out.size; omega)))
      have OS12 := Lib.hid (ownsRow_below' OS11.out hb2)
      have OS22 := Lib.hid ho
      clear hb2 ho
      have k3 := Lib.hid (spec_BagPut (some ⟨w.heap.size, 0, none⟩) n1 n1 w101.heap.size n2 n2 _ xs ys V w102 (Sl.of_own OS12.out) OS22.out hg1 hg2 hV0 hV1)
      unfold OrdOkPost at k3
      rw [← Hr.out, ← Ho.out] at k3
      go_wp2_with fail
      refine (k3.out).mono ?_
      rintro ee wW ⟨aW, cW, rfl, ho, hbW⟩
      have hszW := hbW.size
      have HW := Lib.hid (Sl.of_own ho)
      have Hb3 := Lib.hid (Hb2.out.trans (hbW.mono (by have h1 := Hb2.out.size; omega)))
      have HcW := Lib.hid (Below.refl wW.heap.size wW)
      have hwW : w.heap.size ≤ wW.heap.size := Hb3.out.size
      clear ho hbW
      have k4 := Lib.hid (toIntS_any a1 n1 c1 xs wW hs1 (H1.out.below Hb3.out))
      go_wp2_with fail
      refine (k4.out).mono ?_
      rintro ee w104 ⟨rfl, ho, hb4⟩
      have hsz4 := hb4.size
      have Hb4 := Lib.hid (Hb3.out.trans (hb4.mono (by have h1 := Hb3.out.size; omega)))
      have Hc4 := Lib.hid (HcW.out.trans (hb4.mono (by have h1 := HcW.out.size; omega)))
      have hltX1 := (ho.lt _ rfl).2
      have OX14 := Lib.hid ho
      clear hb4 ho
      have hwX1 : wW.heap.size ≤ w104.heap.size := Hc4.out.size
      have k5 := Lib.hid (toIntS_any a2 n2 c2 ys w104 hs2 (H2.out.below Hb4.out))
      go_wp2_with fail
      refine (k5.out).mono ?_
      rintro ee w105 ⟨rfl, ho, hb5⟩
      have hsz5 := hb5.size
      have Hb5 := Lib.hid (Hb4.out.trans (hb5.mono (by have h1 := Hb4.out.size; omega)))
      have Hc5 := Lib.hid (Hc4.out.trans (hb5.mono (by have h1 := Hc4.out.size; omega)))
      have OX15 := Lib.hid (ownsRow_below' OX14.out hb5)
      have hltX2 := (ho.lt _ rfl).2
      have OX25 := Lib.hid ho
      clear hb5 ho
      have hwX2 : wW.heap.size ≤ w105.heap.size := Hc5.out.size
      have k6 := Lib.hid (impl_BagPut (some ⟨wW.heap.size, 0, none⟩) (some ⟨w104.heap.size, 0, none⟩) n1 n1 n2 n2 xs V ys w105 (Sl.of_own OX15.out) (Sl.of_own OX25.out) hg1 hg2)
      unfold OrdOkPost at k6
      rw [← Hr.out, ← Ho.out] at k6
      go_wp2_with fail
      refine (k6.out).mono ?_
      rintro ee w106 ⟨aG, cG, rfl, ho, hb6⟩
      have hsz6 := hb6.size
      have Hb6 := Lib.hid (Hb5.out.trans (hb6.mono (by have h1 := Hb5.out.size; omega)))
      have Hc6 := Lib.hid (Hc5.out.trans (hb6.mono (by have h1 := Hc5.out.size; omega)))
      have OX16 := Lib.hid (ownsRow_below' OX15.out hb6)
      have OX26 := Lib.hid (ownsRow_below' OX25.out hb6)
      have OG6 := Lib.hid ho
      clear hb6 ho
      have k7 := Lib.hid (eqIntS_any aG aW r.length cG r.length cW r r w106 (by omega) (Sl.of_own OG6.out) (HW.out.below Hc6.out))
      rw [eqB_refl] at k7
      go_wp2_with fail
      refine (k7.out).mono ?_
      rintro ee w107 ⟨rfl, hb7⟩
      have hsz7 := hb7.size
      have Hb7 := Lib.hid (Hb6.out.trans (hb7.mono (by have h1 := Hb6.out.size; omega)))
      have Hc7 := Lib.hid (Hc6.out.trans (hb7.mono (by have h1 := Hc6.out.size; omega)))
      have OX17 := Lib.hid (ownsRow_below' OX16.out hb7)
      have OX27 := Lib.hid (ownsRow_below' OX26.out hb7)
      have OG7 := Lib.hid (ownsRow_below' OG6.out hb7)
      clear hb7
      have k8 := Lib.hid (toIntS_any a1 n1 c1 xs w107 hs1 (H1.out.below Hb7.out))
      go_wp2_with fail
      refine (k8.out).mono ?_
      rintro ee w108 ⟨rfl, ho, hb8⟩
      have hsz8 := hb8.size
      have Hb8 := Lib.hid (Hb7.out.trans (hb8.mono (by have h1 := Hb7.out.size; omega)))
      have Hc8 := Lib.hid (Hc7.out.trans (hb8.mono (by have h1 := Hc7.out.size; omega)))
      have OX18 := Lib.hid (ownsRow_below' OX17.out hb8)
      have OX28 := Lib.hid (ownsRow_below' OX27.out hb8)
      have OG8 := Lib.hid (ownsRow_below' OG7.out hb8)
      have OC8 := Lib.hid ho
      clear hb8 ho
      have k9 := Lib.hid (eqIntS_any (some ⟨wW.heap.size, 0, none⟩) (some ⟨w107.heap.size, 0, none⟩) n1 n1 n1 n1 xs xs w108 (by omega) (Sl.of_own OX18.out) (Sl.of_own OC8.out))
      rw [eqB_refl] at k9
      go_wp2_with fail
      refine (k9.out).mono ?_
      rintro ee w109 ⟨rfl, hb9⟩
      have hsz9 := hb9.size
      have Hb9 := Lib.hid (Hb8.out.trans (hb9.mono (by have h1 := Hb8.out.size; omega)))
      have Hc9 := Lib.hid (Hc8.out.trans (hb9.mono (by have h1 := Hc8.out.size; omega)))
      have OX19 := Lib.hid (ownsRow_below' OX18.out hb9)
      have OX29 := Lib.hid (ownsRow_below' OX28.out hb9)
      have OG9 := Lib.hid (ownsRow_below' OG8.out hb9)
      have OC9 := Lib.hid (ownsRow_below' OC8.out hb9)
      clear hb9
      have k10 := Lib.hid (toIntS_any a2 n2 c2 ys w109 hs2 (H2.out.below Hb9.out))
      go_wp2_with fail
      refine (k10.out).mono ?_
      rintro ee w110 ⟨rfl, ho, hb10⟩
      have hsz10 := hb10.size
      have Hb10 := Lib.hid (Hb9.out.trans (hb10.mono (by have h1 := Hb9.out.size; omega)))
      have Hc10 := Lib.hid (Hc9.out.trans (hb10.mono (by have h1 := Hc9.out.size; omega)))
      have OX110 := Lib.hid (ownsRow_below' OX19.out hb10)
      have OX210 := Lib.hid (ownsRow_below' OX29.out hb10)
      have OG10 := Lib.hid (ownsRow_below' OG9.out hb10)
      have OC10 := Lib.hid ho
      clear hb10 ho
      have k11 := Lib.hid (eqIntS_any (some ⟨w104.heap.size, 0, none⟩) (some ⟨w109.heap.size, 0, none⟩) n2 n2 n2 n2 ys ys w110 (by omega) (Sl.of_own OX210.out) (Sl.of_own OC10.out))
      rw [eqB_refl] at k11
      go_wp2_with fail
      refine (k11.out).mono ?_
      rintro ee w111 ⟨rfl, hb11⟩
      have hsz11 := hb11.size
      have Hb11 := Lib.hid (Hb10.out.trans (hb11.mono (by have h1 := Hb10.out.size; omega)))
      have Hc11 := Lib.hid (Hc10.out.trans (hb11.mono (by have h1 := Hc10.out.size; omega)))
      have OX111 := Lib.hid (ownsRow_below' OX110.out hb11)
      have OX211 := Lib.hid (ownsRow_below' OX210.out hb11)
      have OG11 := Lib.hid (ownsRow_below' OG10.out hb11)
      have OC11 := Lib.hid (ownsRow_below' OC10.out hb11)
      clear hb11
      have k12 := Lib.hid (markIntS_any wW.heap.size (some ⟨wW.heap.size, 0, none⟩) n1 n1 xs 1 w111 (by omega) (by omega) (by omega) OX111.out)
      go_wp2_with fail
      refine (k12.out).mono ?_
      rintro ee w112 ⟨rfl, ho, hb12, hg12⟩
      have hsz12 := hg12.size
      have Hb12 := Lib.hid (Hb11.out.trans (hb12.mono (by omega)))
      have Hc12 := Lib.hid (Hc11.out.trans (hb12.mono (by omega)))
      have OX212 := Lib.hid (OX211.out.kept hg12 (own_past (B := w104.heap.size) OX211.out (fun g e => by cases e; (try dsimp only); omega)))
      have OG12 := Lib.hid (OG11.out.kept hg12 (own_past (B := w105.heap.size) OG11.out (fun g e => by cases e; (try dsimp only); omega)))
      have OX112 := Lib.hid ho
      clear ho hb12 hg12
      have e1 : (0 : Int) ≤ (1 : Int) + (n1 : Int) := by omega
      have k13 := Lib.hid (markIntS_any w104.heap.size (some ⟨w104.heap.size, 0, none⟩) n2 n2 ys (1 + (n1 : Int)) w112 (by omega) (by omega) (by omega) OX212.out)
      go_wp2_with fail
      refine (k13.out).mono ?_
      rintro ee w113 ⟨rfl, ho, hb13, hg13⟩
      have hsz13 := hg13.size
      have Hb13 := Lib.hid (Hb12.out.trans (hb13.mono (by omega)))
      have Hc13 := Lib.hid (Hc12.out.trans (hb13.mono (by omega)))
      have OG13 := Lib.hid (OG12.out.kept hg13 (own_past (B := w105.heap.size) OG12.out (fun g e => by cases e; (try dsimp only); omega)))
      have OX213 := Lib.hid ho
      clear ho hb13 hg13
      have hge : ¬ ((1 : Int) + n1 + n2 < 0) := by omega
      have k14 := Lib.hid (eqIntS_any aG aW r.length cG r.length cW r r w113 (by omega) (Sl.of_own OG13.out) (HW.out.below Hc13.out))
      rw [eqB_refl] at k14
      go_wp2_with fail
      refine (k14.out).mono ?_
      rintro ee w114 ⟨rfl, hb14⟩
      have hsz14 := hb14.size
      have Hb14 := Lib.hid (Hb13.out.trans (hb14.mono (by have h1 := Hb13.out.size; omega)))
      have Hc14 := Lib.hid (Hc13.out.trans (hb14.mono (by have h1 := Hc13.out.size; omega)))
      have OG14 := Lib.hid (ownsRow_below' OG13.out hb14)
      clear hb14
      have k15 := Lib.hid (markIntS_any w105.heap.size aG r.length cG r 1 w114 (by omega) (by omega) (by omega) OG14.out)
      go_wp2_with fail
      refine (k15.out).mono ?_
      rintro ee w115 ⟨rfl, ho, hb15, hg15⟩
      have hsz15 := hg15.size
      have Hb15 := Lib.hid (Hb14.out.trans (hb15.mono (by omega)))
      have Hc15 := Lib.hid (Hc14.out.trans (hb15.mono (by omega)))
      have OG15 := Lib.hid ho
      clear ho hb15 hg15
      have hge2 : ¬ ((1 : Int) + r.length < 0) := by omega
      have hne : (((1 : Int) + r.length) != ((1 : Int) + r.length)) = false := by simp
      have k16 := Lib.hid (heldIntS_any aG r.length cG 1 w115 (by omega) (by omega) (by omega) (Sl.of_own OG15.out))
      go_wp2_with fail
      refine (k16.out).mono ?_
      rintro ee w116 ⟨rfl, hb16⟩
      have hsz16 := hb16.size
      have Hb16 := Lib.hid (Hb15.out.trans (hb16.mono (by have h1 := Hb15.out.size; omega)))
      have Hc16 := Lib.hid (Hc15.out.trans (hb16.mono (by have h1 := Hc15.out.size; omega)))
      have OG16 := Lib.hid (ownsRow_below' OG15.out hb16)
      clear hb16
      have k17 := Lib.hid (toIntS_any a1 n1 c1 xs w116 hs1 (H1.out.below Hb16.out))
      go_wp2_with fail
      refine (k17.out).mono ?_
      rintro ee w117 ⟨rfl, ho, hb17⟩
      have hsz17 := hb17.size
      have Hb17 := Lib.hid (Hb16.out.trans (hb17.mono (by have h1 := Hb16.out.size; omega)))
      have Hc17 := Lib.hid (Hc16.out.trans (hb17.mono (by have h1 := Hc16.out.size; omega)))
      have OG17 := Lib.hid (ownsRow_below' OG16.out hb17)
      have OT117 := Lib.hid ho
      clear hb17 ho
      have k18 := Lib.hid (toIntS_any a2 n2 c2 ys w117 hs2 (H2.out.below Hb17.out))
      go_wp2_with fail
      refine (k18.out).mono ?_
      rintro ee w118 ⟨rfl, ho, hb18⟩
      have hsz18 := hb18.size
      have Hb18 := Lib.hid (Hb17.out.trans (hb18.mono (by have h1 := Hb17.out.size; omega)))
      have Hc18 := Lib.hid (Hc17.out.trans (hb18.mono (by have h1 := Hc17.out.size; omega)))
      have OG18 := Lib.hid (ownsRow_below' OG17.out hb18)
      have OT118 := Lib.hid (ownsRow_below' OT117.out hb18)
      have OT218 := Lib.hid ho
      clear hb18 ho
      have k19 := Lib.hid (impl_BagPut (some ⟨w116.heap.size, 0, none⟩) (some ⟨w117.heap.size, 0, none⟩) n1 n1 n2 n2 xs V ys w118 (Sl.of_own OT118.out) (Sl.of_own OT218.out) hg1 hg2)
      unfold OrdOkPost at k19
      rw [← Hr.out, ← Ho.out] at k19
      go_wp2_with fail
      refine (k19.out).mono ?_
      rintro ee w119 ⟨aH, cH, rfl, ho, hb19⟩
      have hsz19 := hb19.size
      have Hb19 := Lib.hid (Hb18.out.trans (hb19.mono (by have h1 := Hb18.out.size; omega)))
      have Hc19 := Lib.hid (Hc18.out.trans (hb19.mono (by have h1 := Hc18.out.size; omega)))
      have OG19 := Lib.hid (ownsRow_below' OG18.out hb19)
      have OT119 := Lib.hid (ownsRow_below' OT118.out hb19)
      have OT219 := Lib.hid (ownsRow_below' OT218.out hb19)
      have OH19 := Lib.hid ho
      clear hb19 ho
      have k20 := Lib.hid (eqIntS_any aH aW r.length cH r.length cW r r w119 (by omega) (Sl.of_own OH19.out) (HW.out.below Hc19.out))
      rw [eqB_refl] at k20
      go_wp2_with fail
      refine (k20.out).mono ?_
      rintro ee w120 ⟨rfl, hb20⟩
      have hsz20 := hb20.size
      have Hb20 := Lib.hid (Hb19.out.trans (hb20.mono (by have h1 := Hb19.out.size; omega)))
      have Hc20 := Lib.hid (Hc19.out.trans (hb20.mono (by have h1 := Hc19.out.size; omega)))
      have OG20 := Lib.hid (ownsRow_below' OG19.out hb20)
      have OT120 := Lib.hid (ownsRow_below' OT119.out hb20)
      have OT220 := Lib.hid (ownsRow_below' OT219.out hb20)
      have OH20 := Lib.hid (ownsRow_below' OH19.out hb20)
      clear hb20
      have k21 := Lib.hid (heldIntS_any aG r.length cG 1 w120 (by omega) (by omega) (by omega) (Sl.of_own OG20.out))
      go_wp2_with fail
      refine (k21.out).mono ?_
      rintro ee w121 ⟨rfl, hb21⟩
      have hsz21 := hb21.size
      have Hb21 := Lib.hid (Hb20.out.trans (hb21.mono (by have h1 := Hb20.out.size; omega)))
      have Hc21 := Lib.hid (Hc20.out.trans (hb21.mono (by have h1 := Hc20.out.size; omega)))
      have OG21 := Lib.hid (ownsRow_below' OG20.out hb21)
      have OT121 := Lib.hid (ownsRow_below' OT120.out hb21)
      have OT221 := Lib.hid (ownsRow_below' OT220.out hb21)
      have OH21 := Lib.hid (ownsRow_below' OH20.out hb21)
      clear hb21
      go_wp2_with fail
      go_ret
      exact ⟨rfl, Hb21.out⟩
    · have hgt : (1048576 : Int) < n2 := by omega
      have hle : (n1 : Int) ≤ 1048576 := by omega
      go_enter Try.func9, Try.ntmps9
      go_wp2_with fail
      go_ret
      exact ⟨rfl, Below.refl _ _⟩
  · have hgt : (1048576 : Int) < n1 := by omega
    go_enter Try.func9, Try.ntmps9
    go_wp2_with fail
    go_ret
    exact ⟨rfl, Below.refl _ _⟩

end Go.Proofs.Ytgkcpmhgmhioiaa
