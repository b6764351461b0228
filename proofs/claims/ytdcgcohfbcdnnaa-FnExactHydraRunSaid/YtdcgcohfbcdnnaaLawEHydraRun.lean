/- FnExactHydraRun: the walk of the law. -/
import Derived.Test.YtdcgcohfbcdnnaaHydW
import Derived.Test.YtdcgcohfbcdnnaaMark
namespace Go.Proofs.Ytdcgcohfbcdnnaa
set_option maxRecDepth 100000
open Go.RowKit

theorem implw_HydraRun (V : Int) (a a2 : Option Addr) (l c l2 c2 : Nat) (xs ys : List Int) (w : World) (h : Sl w a l c xs) (h' : Sl w a2 l2 c2 ys) :
    Calls Try.prog 19 #[.slice a l c, .slice a2 l2 c2, .int .i64 V] w (OrdOkPost w (H.runRow xs ys V) (H.runOkB xs ys V)) := impl_HydraRun a l c xs a2 l2 c2 ys V w h h'
theorem specw_HydraRun (V : Int) (a a2 : Option Addr) (l c l2 c2 : Nat) (xs ys : List Int) (w : World) (h : Sl w a l c xs) (h' : Sl w a2 l2 c2 ys) :
    Calls Try.prog 18 #[.slice a l c, .slice a2 l2 c2, .int .i64 V] w (OrdOkPost w (H.runRow xs ys V) (H.runOkB xs ys V)) := spec_HydraRun a l c xs a2 l2 c2 ys V w h h'

theorem own_past {w : World} {B e n n' c' size : Nat} {a' : Option Addr} {v : Value} {xs : List Value} (h : w.ownsRow B e size v n xs) (hlt : ∀ g, Value.ownBlock (.slice a' n' c') = some g → g < B) :
    v.ownBlock = none ∨ v.ownBlock ≠ Value.ownBlock (.slice a' n' c') := by
  cases hv : v.ownBlock with
  | none => exact .inl rfl
  | some g =>
    refine .inr (fun he => ?_)
    have h1 := (h.lt g hv).1
    have h2 := hlt g he.symm
    omega

set_option maxHeartbeats 4000000 in
theorem exactHydraRun_walk (a1 : Option Addr) (n1 c1 : Nat) (xs : List Int) (a2 : Option Addr) (n2 c2 : Nat) (ys : List Int) (V : Int) (w : World) (h : Sl w a1 n1 c1 xs) (h' : Sl w a2 n2 c2 ys) :
    Calls Try.prog 4 #[.slice a1 n1 c1, .slice a2 n2 c2, .int .i64 V] w fun e w' => e = .returned (.bool true) ∧ Below w.heap.size w w' := by
  by_cases h20 : n1 ≤ 1048576
  · by_cases h21 : n2 ≤ 1048576
    · have h12 : n1 ≤ 1000000000000 := by omega
      have h13 : n2 ≤ 1000000000000 := by omega
      have HH := Lib.hid h
      have H' := Lib.hid h'
      obtain ⟨r, hr⟩ : ∃ r, r = H.runRow xs ys V := ⟨_, rfl⟩
      have hrl : r.length ≤ 1000 := by rw [hr]; exact H.run_len xs ys V
      obtain ⟨o, hq⟩ : ∃ o, o = H.runOkB xs ys V := ⟨_, rfl⟩
      have Hr := Lib.hid hr
      have Ho := Lib.hid hq
      clear h h' hr hq
      go_enter Try.func4, Try.ntmps4
      have k1 := Lib.hid (toIntS_any a1 n1 c1 xs w h12 HH.out)
      go_wp2_with fail
      refine (k1.out).mono ?_
      rintro ee w101 ⟨rfl, ho, hb1⟩
      have hsz1 := hb1.size
      have Hb1 := Lib.hid hb1
      have OA11 := Lib.hid ho
      clear hb1 ho
      have k2 := Lib.hid (toIntS_any a2 n2 c2 ys w101 h13 (H'.out.below Hb1.out))
      go_wp2_with fail
      refine (k2.out).mono ?_
      rintro ee w102 ⟨rfl, ho, hb2⟩
      have hsz2 := hb2.size
      have Hb2 := Lib.hid (Hb1.out.trans (hb2.mono (by have h1 := Hb1.out.size; omega)))
      have OA12 := Lib.hid (ownsRow_below' OA11.out hb2)
      have OB12 := Lib.hid ho
      clear hb2 ho
      have k3 := Lib.hid (specw_HydraRun V (some ⟨w.heap.size, 0, none⟩) (some ⟨w101.heap.size, 0, none⟩) n1 n1 n2 n2 xs ys w102 (Sl.of_own OA12.out) (Sl.of_own OB12.out))
      unfold OrdOkPost at k3
      rw [← Hr.out, ← Ho.out] at k3
      go_wp2_with fail
      refine (k3.out).mono ?_
      rintro ee wW ⟨aW, cW, rfl, ho, hbW⟩
      have hszW := hbW.size
      have HW := Lib.hid (Sl.of_own ho)
      have Hb3 := Lib.hid (Hb2.out.trans (hbW.mono (by have h1 := Hb2.out.size; omega)))
      have HcW := Lib.hid (Below.refl wW.heap.size wW)
      have hwW : w.heap.size ≤ wW.heap.size := Hb3.out.size
      clear ho hbW
      have k4 := Lib.hid (toIntS_any a1 n1 c1 xs wW h12 (HH.out.below Hb3.out))
      go_wp2_with fail
      refine (k4.out).mono ?_
      rintro ee w104 ⟨rfl, ho, hb4⟩
      have hsz4 := hb4.size
      have Hb4 := Lib.hid (Hb3.out.trans (hb4.mono (by have h1 := Hb3.out.size; omega)))
      have Hc4 := Lib.hid (HcW.out.trans (hb4.mono (by have h1 := HcW.out.size; omega)))
      have hltX0 := (ho.lt _ rfl).2
      have OX04 := Lib.hid ho
      clear hb4 ho
      have hw1 : wW.heap.size ≤ w104.heap.size := Hc4.out.size
      have k5 := Lib.hid (toIntS_any a2 n2 c2 ys w104 h13 (H'.out.below Hb4.out))
      go_wp2_with fail
      refine (k5.out).mono ?_
      rintro ee w105 ⟨rfl, ho, hb5⟩
      have hsz5 := hb5.size
      have Hb5 := Lib.hid (Hb4.out.trans (hb5.mono (by have h1 := Hb4.out.size; omega)))
      have Hc5 := Lib.hid (Hc4.out.trans (hb5.mono (by have h1 := Hc4.out.size; omega)))
      have OX05 := Lib.hid (ownsRow_below' OX04.out hb5)
      have hltX1 := (ho.lt _ rfl).2
      have OX15 := Lib.hid ho
      clear hb5 ho
      have hw2 : w104.heap.size ≤ w105.heap.size := hsz5
      have k6 := Lib.hid (implw_HydraRun V (some ⟨wW.heap.size, 0, none⟩) (some ⟨w104.heap.size, 0, none⟩) n1 n1 n2 n2 xs ys w105 (Sl.of_own OX05.out) (Sl.of_own OX15.out))
      unfold OrdOkPost at k6
      rw [← Hr.out, ← Ho.out] at k6
      go_wp2_with fail
      refine (k6.out).mono ?_
      rintro ee w106 ⟨aG, cG, rfl, ho, hb6⟩
      have hsz6 := hb6.size
      have Hb6 := Lib.hid (Hb5.out.trans (hb6.mono (by have h1 := Hb5.out.size; omega)))
      have Hc6 := Lib.hid (Hc5.out.trans (hb6.mono (by have h1 := Hc5.out.size; omega)))
      have OX06 := Lib.hid (ownsRow_below' OX05.out hb6)
      have OX16 := Lib.hid (ownsRow_below' OX15.out hb6)
      have OG6 := Lib.hid ho
      clear hb6 ho
      have k7 := Lib.hid (eqIntS_any aG aW r.length cG r.length cW r r w106 (by omega) (Sl.of_own OG6.out) (HW.out.below Hc6.out))
      rw [eqB_refl] at k7
      go_wp2_with fail
      refine (k7.out).mono ?_
      rintro ee w107 ⟨rfl, hb7⟩
      have hsz7 := hb7.size
      have Hb7 := Lib.hid (Hb6.out.trans (hb7.mono (by have h1 := Hb6.out.size; omega)))
      have Hc7 := Lib.hid (Hc6.out.trans (hb7.mono (by have h1 := Hc6.out.size; omega)))
      have OX07 := Lib.hid (ownsRow_below' OX06.out hb7)
      have OX17 := Lib.hid (ownsRow_below' OX16.out hb7)
      have OG7 := Lib.hid (ownsRow_below' OG6.out hb7)
      clear hb7
      have k8 := Lib.hid (toIntS_any a1 n1 c1 xs w107 h12 (HH.out.below Hb7.out))
      go_wp2_with fail
      refine (k8.out).mono ?_
      rintro ee w108 ⟨rfl, ho, hb8⟩
      have hsz8 := hb8.size
      have Hb8 := Lib.hid (Hb7.out.trans (hb8.mono (by have h1 := Hb7.out.size; omega)))
      have Hc8 := Lib.hid (Hc7.out.trans (hb8.mono (by have h1 := Hc7.out.size; omega)))
      have OX08 := Lib.hid (ownsRow_below' OX07.out hb8)
      have OX18 := Lib.hid (ownsRow_below' OX17.out hb8)
      have OG8 := Lib.hid (ownsRow_below' OG7.out hb8)
      have OA28 := Lib.hid ho
      clear hb8 ho
      have k9 := Lib.hid (eqIntS_any (some ⟨wW.heap.size, 0, none⟩) (some ⟨w107.heap.size, 0, none⟩) n1 n1 n1 n1 xs xs w108 (by omega) (Sl.of_own OX08.out) (Sl.of_own OA28.out))
      rw [eqB_refl] at k9
      go_wp2_with fail
      refine (k9.out).mono ?_
      rintro ee w109 ⟨rfl, hb9⟩
      have hsz9 := hb9.size
      have Hb9 := Lib.hid (Hb8.out.trans (hb9.mono (by have h1 := Hb8.out.size; omega)))
      have Hc9 := Lib.hid (Hc8.out.trans (hb9.mono (by have h1 := Hc8.out.size; omega)))
      have OX09 := Lib.hid (ownsRow_below' OX08.out hb9)
      have OX19 := Lib.hid (ownsRow_below' OX18.out hb9)
      have OG9 := Lib.hid (ownsRow_below' OG8.out hb9)
      have OA29 := Lib.hid (ownsRow_below' OA28.out hb9)
      clear hb9
      have k10 := Lib.hid (toIntS_any a2 n2 c2 ys w109 h13 (H'.out.below Hb9.out))
      go_wp2_with fail
      refine (k10.out).mono ?_
      rintro ee w110 ⟨rfl, ho, hb10⟩
      have hsz10 := hb10.size
      have Hb10 := Lib.hid (Hb9.out.trans (hb10.mono (by have h1 := Hb9.out.size; omega)))
      have Hc10 := Lib.hid (Hc9.out.trans (hb10.mono (by have h1 := Hc9.out.size; omega)))
      have OX010 := Lib.hid (ownsRow_below' OX09.out hb10)
      have OX110 := Lib.hid (ownsRow_below' OX19.out hb10)
      have OG10 := Lib.hid (ownsRow_below' OG9.out hb10)
      have OB210 := Lib.hid ho
      clear hb10 ho
      have k11 := Lib.hid (eqIntS_any (some ⟨w104.heap.size, 0, none⟩) (some ⟨w109.heap.size, 0, none⟩) n2 n2 n2 n2 ys ys w110 (by omega) (Sl.of_own OX110.out) (Sl.of_own OB210.out))
      rw [eqB_refl] at k11
      go_wp2_with fail
      refine (k11.out).mono ?_
      rintro ee w111 ⟨rfl, hb11⟩
      have hsz11 := hb11.size
      have Hb11 := Lib.hid (Hb10.out.trans (hb11.mono (by have h1 := Hb10.out.size; omega)))
      have Hc11 := Lib.hid (Hc10.out.trans (hb11.mono (by have h1 := Hc10.out.size; omega)))
      have OX011 := Lib.hid (ownsRow_below' OX010.out hb11)
      have OX111 := Lib.hid (ownsRow_below' OX110.out hb11)
      have OG11 := Lib.hid (ownsRow_below' OG10.out hb11)
      have OB211 := Lib.hid (ownsRow_below' OB210.out hb11)
      clear hb11
      have k12 := Lib.hid (markIntS_any wW.heap.size (some ⟨wW.heap.size, 0, none⟩) n1 n1 xs 1 w111 (by omega) (by omega) (by omega) OX011.out)
      go_wp2_with fail
      refine (k12.out).mono ?_
      rintro ee w112 ⟨rfl, ho, hb12, hg12⟩
      have hsz12 := hg12.size
      have Hb12 := Lib.hid (Hb11.out.trans (hb12.mono (by omega)))
      have Hc12 := Lib.hid (Hc11.out.trans (hb12.mono (by omega)))
      have OX112 := Lib.hid (OX111.out.kept hg12 (own_past (B := w104.heap.size) OX111.out (fun g e => by cases e; (try dsimp only); omega)))
      have OG12 := Lib.hid (OG11.out.kept hg12 (own_past (B := w105.heap.size) OG11.out (fun g e => by cases e; (try dsimp only); omega)))
      have OX012 := Lib.hid ho
      clear ho hb12 hg12
      have e1 : (0 : Int) ≤ 1 + (n1 : Int) := by omega
      have k13 := Lib.hid (markIntS_any w104.heap.size (some ⟨w104.heap.size, 0, none⟩) n2 n2 ys (1 + (n1 : Int)) w112 (by omega) (by omega) (by omega) OX112.out)
      go_wp2_with fail
      refine (k13.out).mono ?_
      rintro ee w113 ⟨rfl, ho, hb13, hg13⟩
      have hsz13 := hg13.size
      have Hb13 := Lib.hid (Hb12.out.trans (hb13.mono (by omega)))
      have Hc13 := Lib.hid (Hc12.out.trans (hb13.mono (by omega)))
      have OG13 := Lib.hid (OG12.out.kept hg13 (own_past (B := w105.heap.size) OG12.out (fun g e => by cases e; (try dsimp only); omega)))
      have OX113 := Lib.hid ho
      clear ho hb13 hg13
      have hge : ¬ ((1 : Int) + n1 + n2 < 0) := by omega
      have k14 := Lib.hid (eqIntS_any aG aW r.length cG r.length cW r r w113 (by omega) (Sl.of_own OG13.out) (HW.out.below Hc13.out))
      rw [eqB_refl] at k14
      go_wp2_with fail
      refine (k14.out).mono ?_
      rintro ee w114 ⟨rfl, hb14⟩
      have hsz14 := hb14.size
      have Hb14 := Lib.hid (Hb13.out.trans (hb14.mono (by have h1 := Hb13.out.size; omega)))
      have Hc14 := Lib.hid (Hc13.out.trans (hb14.mono (by have h1 := Hc13.out.size; omega)))
      have OG14 := Lib.hid (ownsRow_below' OG13.out hb14)
      clear hb14
      have k15 := Lib.hid (markIntS_any w105.heap.size aG r.length cG r 1 w114 (by omega) (by omega) (by omega) OG14.out)
      go_wp2_with fail
      refine (k15.out).mono ?_
      rintro ee w115 ⟨rfl, ho, hb15, hg15⟩
      have hsz15 := hg15.size
      have Hb15 := Lib.hid (Hb14.out.trans (hb15.mono (by omega)))
      have Hc15 := Lib.hid (Hc14.out.trans (hb15.mono (by omega)))
      have OG15 := Lib.hid ho
      clear ho hb15 hg15
      have hge2 : ¬ ((1 : Int) + r.length < 0) := by omega
      have hne : (((1 : Int) + r.length) != ((1 : Int) + r.length)) = false := by simp
      have k16 := Lib.hid (heldIntS_any aG r.length cG 1 w115 (by omega) (by omega) (by omega) (Sl.of_own OG15.out))
      go_wp2_with fail
      refine (k16.out).mono ?_
      rintro ee w116 ⟨rfl, hb16⟩
      have hsz16 := hb16.size
      have Hb16 := Lib.hid (Hb15.out.trans (hb16.mono (by have h1 := Hb15.out.size; omega)))
      have Hc16 := Lib.hid (Hc15.out.trans (hb16.mono (by have h1 := Hc15.out.size; omega)))
      have OG16 := Lib.hid (ownsRow_below' OG15.out hb16)
      clear hb16
      have k17 := Lib.hid (toIntS_any a1 n1 c1 xs w116 h12 (HH.out.below Hb16.out))
      go_wp2_with fail
      refine (k17.out).mono ?_
      rintro ee w117 ⟨rfl, ho, hb17⟩
      have hsz17 := hb17.size
      have Hb17 := Lib.hid (Hb16.out.trans (hb17.mono (by have h1 := Hb16.out.size; omega)))
      have Hc17 := Lib.hid (Hc16.out.trans (hb17.mono (by have h1 := Hc16.out.size; omega)))
      have OG17 := Lib.hid (ownsRow_below' OG16.out hb17)
      have OA317 := Lib.hid ho
      clear hb17 ho
      have k18 := Lib.hid (toIntS_any a2 n2 c2 ys w117 h13 (H'.out.below Hb17.out))
      go_wp2_with fail
      refine (k18.out).mono ?_
      rintro ee w118 ⟨rfl, ho, hb18⟩
      have hsz18 := hb18.size
      have Hb18 := Lib.hid (Hb17.out.trans (hb18.mono (by have h1 := Hb17.out.size; omega)))
      have Hc18 := Lib.hid (Hc17.out.trans (hb18.mono (by have h1 := Hc17.out.size; omega)))
      have OG18 := Lib.hid (ownsRow_below' OG17.out hb18)
      have OA318 := Lib.hid (ownsRow_below' OA317.out hb18)
      have OB318 := Lib.hid ho
      clear hb18 ho
      have k19 := Lib.hid (implw_HydraRun V (some ⟨w116.heap.size, 0, none⟩) (some ⟨w117.heap.size, 0, none⟩) n1 n1 n2 n2 xs ys w118 (Sl.of_own OA318.out) (Sl.of_own OB318.out))
      unfold OrdOkPost at k19
      rw [← Hr.out, ← Ho.out] at k19
      go_wp2_with fail
      refine (k19.out).mono ?_
      rintro ee w119 ⟨aH, cH, rfl, ho, hb19⟩
      have hsz19 := hb19.size
      have Hb19 := Lib.hid (Hb18.out.trans (hb19.mono (by have h1 := Hb18.out.size; omega)))
      have Hc19 := Lib.hid (Hc18.out.trans (hb19.mono (by have h1 := Hc18.out.size; omega)))
      have OG19 := Lib.hid (ownsRow_below' OG18.out hb19)
      have OA319 := Lib.hid (ownsRow_below' OA318.out hb19)
      have OB319 := Lib.hid (ownsRow_below' OB318.out hb19)
      have OH19 := Lib.hid ho
      clear hb19 ho
      have k20 := Lib.hid (eqIntS_any aH aW r.length cH r.length cW r r w119 (by omega) (Sl.of_own OH19.out) (HW.out.below Hc19.out))
      rw [eqB_refl] at k20
      go_wp2_with fail
      refine (k20.out).mono ?_
      rintro ee w120 ⟨rfl, hb20⟩
      have hsz20 := hb20.size
      have Hb20 := Lib.hid (Hb19.out.trans (hb20.mono (by have h1 := Hb19.out.size; omega)))
      have Hc20 := Lib.hid (Hc19.out.trans (hb20.mono (by have h1 := Hc19.out.size; omega)))
      have OG20 := Lib.hid (ownsRow_below' OG19.out hb20)
      have OA320 := Lib.hid (ownsRow_below' OA319.out hb20)
      have OB320 := Lib.hid (ownsRow_below' OB319.out hb20)
      have OH20 := Lib.hid (ownsRow_below' OH19.out hb20)
      clear hb20
      have k21 := Lib.hid (heldIntS_any aG r.length cG 1 w120 (by omega) (by omega) (by omega) (Sl.of_own OG20.out))
      go_wp2_with fail
      refine (k21.out).mono ?_
      rintro ee w121 ⟨rfl, hb21⟩
      have hsz21 := hb21.size
      have Hb21 := Lib.hid (Hb20.out.trans (hb21.mono (by have h1 := Hb20.out.size; omega)))
      have Hc21 := Lib.hid (Hc20.out.trans (hb21.mono (by have h1 := Hc20.out.size; omega)))
      have OG21 := Lib.hid (ownsRow_below' OG20.out hb21)
      have OA321 := Lib.hid (ownsRow_below' OA320.out hb21)
      have OB321 := Lib.hid (ownsRow_below' OB320.out hb21)
      have OH21 := Lib.hid (ownsRow_below' OH20.out hb21)
      clear hb21
      go_wp2_with fail
      go_ret
      exact ⟨rfl, Hb21.out⟩
    · have hgt : (1048576 : Int) < n2 := by omega
      have hle : (n1 : Int) ≤ 1048576 := by omega
      go_enter Try.func4, Try.ntmps4
      go_wp2_with fail
      go_ret
      exact ⟨rfl, Below.refl _ _⟩
  · have hgt : (1048576 : Int) < n1 := by omega
    go_enter Try.func4, Try.ntmps4
    go_wp2_with fail
    go_ret
    exact ⟨rfl, Below.refl _ _⟩

end Go.Proofs.Ytdcgcohfbcdnnaa
