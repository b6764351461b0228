/- FnExactOrdDivide: the walk of the law. -/
import Derived.Test.YtaleaagnkfbhpaaDivS
import Derived.Test.YtaleaagnkfbhpaaMark
namespace Go.Proofs.Ytaleaagnkfbhpaa
open Go.RowKit

theorem own_past {w : World} {B e n n' c' size : Nat} {a' : Option Addr} {v : Value} {xs : List Value} (h : w.ownsRow B e size v n xs) (hlt : ∀ g, Value.ownBlock (.slice a' n' c') = some g → g < B) :
    v.ownBlock = none ∨ v.ownBlock ≠ Value.ownBlock (.slice a' n' c') := by
  cases hv : v.ownBlock with
  | none => exact .inl rfl
  | some g =>
    refine .inr (fun he => ?_)
    have h1 := (h.lt g hv).1
    have h2 := hlt g he.symm
    omega

theorem apart_flip {A B : Option Nat} (h : A = none ∨ A ≠ B) : B = none ∨ B ≠ A := by
  cases B with
  | none => exact .inl rfl
  | some g => exact .inr (fun e => h.elim (fun h0 => by rw [h0] at e; cases e) (fun h0 => h0 e.symm))

set_option maxRecDepth 100000 in
set_option maxHeartbeats 4000000 in
theorem exactOrdDivide_walk (a1 : Option Addr) (n1 c1 : Nat) (xs : List Int) (a2 : Option Addr) (n2 c2 : Nat) (ys : List Int) (w : World) (h : Sl w a1 n1 c1 xs) (h' : Sl w a2 n2 c2 ys) :
    Calls Try.prog 6 #[.slice a1 n1 c1, .slice a2 n2 c2] w fun e w' => e = .returned (.bool true) ∧ Below w.heap.size w w' := by
  by_cases h20 : n1 ≤ 1048576
  · by_cases h21 : n2 ≤ 1048576
    · have h12 : n1 ≤ 1000000000000 := by omega
      have h13 : n2 ≤ 1000000000000 := by omega
      have H := Lib.hid h
      have H' := Lib.hid h'
      obtain ⟨r0, hr0⟩ : ∃ r, r = T.quoRow xs ys := ⟨_, rfl⟩
      obtain ⟨r1, hr1⟩ : ∃ r, r = T.remRow xs ys := ⟨_, rfl⟩
      have hrl0 : r0.length ≤ 1000 := by rw [hr0]; exact (T.div_len xs ys).1
      have hrl1 : r1.length ≤ 1000 := by rw [hr1]; exact (T.div_len xs ys).2
      obtain ⟨o, hq⟩ : ∃ o, o = T.divOk xs ys := ⟨_, rfl⟩
      have Hr0 := Lib.hid hr0
      have Hr1 := Lib.hid hr1
      have Ho := Lib.hid hq
      clear h h' hr0 hr1 hq
      go_enter Try.func6, Try.ntmps6
      have k1 := Lib.hid (toIntS_any a1 n1 c1 xs w h12 H.out)
      go_wp2_with fail
      refine (k1.out).mono ?_
      rintro ee w101 ⟨rfl, ho, hb1⟩
      have hsz1 := hb1.size
      have Hb1 := Lib.hid hb1
      have OA11 := Lib.hid ho
      clear hb1 ho
      have k2 := Lib.hid (toIntS_any a2 n2 c2 ys w101 h13 (H'.out.below Hb1.out))
      go_wp2_with fail
      refine (k2.out).mono ?_
      rintro ee w102 ⟨rfl, ho, hb2⟩
      have hsz2 := hb2.size
      have Hb2 := Lib.hid (Hb1.out.trans (hb2.mono (by have h1 := Hb1.out.size; omega)))
      have OA12 := Lib.hid (ownsRow_below' OA11.out hb2)
      have OB12 := Lib.hid ho
      clear hb2 ho
      have k3 := Lib.hid (spec_OrdDivide (some ⟨w.heap.size, 0, none⟩) (some ⟨w101.heap.size, 0, none⟩) n1 n1 n2 n2 xs ys w102 (Sl.of_own OA12.out) (Sl.of_own OB12.out))
      unfold DivPost at k3
      rw [← Hr0.out, ← Hr1.out, ← Ho.out] at k3
      go_wp2_with fail
      refine (k3.out).mono ?_
      rintro ee wW ⟨aW0, cW0, aW1, cW1, rfl, ho, ho', hap, hbW⟩
      have hszW := hbW.size
      have HW0 := Lib.hid (Sl.of_own ho)
      have HW1 := Lib.hid (Sl.of_own ho')
      have Hb3 := Lib.hid (Hb2.out.trans (hbW.mono (by have h1 := Hb2.out.size; omega)))
      have HcW := Lib.hid (Below.refl wW.heap.size wW)
      have hwW : w.heap.size ≤ wW.heap.size := Hb3.out.size
      clear ho ho' hap hbW
      have k4 := Lib.hid (toIntS_any a1 n1 c1 xs wW h12 (H.out.below Hb3.out))
      go_wp2_with fail
      refine (k4.out).mono ?_
      rintro ee w104 ⟨rfl, ho, hb4⟩
      have hsz4 := hb4.size
      have Hb4 := Lib.hid (Hb3.out.trans (hb4.mono (by have h1 := Hb3.out.size; omega)))
      have Hc4 := Lib.hid (HcW.out.trans (hb4.mono (by have h1 := HcW.out.size; omega)))
      have hltX0 := (ho.lt _ rfl).2
      have OX04 := Lib.hid ho
      clear hb4 ho
      have hw1 : wW.heap.size ≤ w104.heap.size := Hc4.out.size
      have k5 := Lib.hid (toIntS_any a2 n2 c2 ys w104 h13 (H'.out.below Hb4.out))
      go_wp2_with fail
      refine (k5.out).mono ?_
      rintro ee w105 ⟨rfl, ho, hb5⟩
      have hsz5 := hb5.size
      have Hb5 := Lib.hid (Hb4.out.trans (hb5.mono (by have h1 := Hb4.out.size; omega)))
      have Hc5 := Lib.hid (Hc4.out.trans (hb5.mono (by have h1 := Hc4.out.size; omega)))
      have OX05 := Lib.hid (ownsRow_below' OX04.out hb5)
      have hltX1 := (ho.lt _ rfl).2
      have OX15 := Lib.hid ho
      clear hb5 ho
      have hw2 : w104.heap.size ≤ w105.heap.size := hsz5
      have k6 := Lib.hid (impl_OrdDivide (some ⟨wW.heap.size, 0, none⟩) (some ⟨w104.heap.size, 0, none⟩) n1 n1 n2 n2 xs ys w105 (Sl.of_own OX05.out) (Sl.of_own OX15.out))
      unfold DivPost at k6
      rw [← Hr0.out, ← Hr1.out, ← Ho.out] at k6
      go_wp2_with fail
      refine (k6.out).mono ?_
      rintro ee w106 ⟨aG0, cG0, aG1, cG1, rfl, ho, ho', hapG, hb6⟩
      have hsz6 := hb6.size
      have Hb6 := Lib.hid (Hb5.out.trans (hb6.mono (by have h1 := Hb5.out.size; omega)))
      have Hc6 := Lib.hid (Hc5.out.trans (hb6.mono (by have h1 := Hc5.out.size; omega)))
      have OX06 := Lib.hid (ownsRow_below' OX05.out hb6)
      have OX16 := Lib.hid (ownsRow_below' OX15.out hb6)
      have OG06 := Lib.hid ho
      have OG16 := Lib.hid ho'
      have HapG' := Lib.hid hapG
      have HapG := Lib.hid (apart_flip hapG)
      clear ho ho' hapG hb6
      have k7 := Lib.hid (eqIntS_any aG0 aW0 r0.length cG0 r0.length cW0 r0 r0 w106 (by omega) (Sl.of_own OG06.out) (HW0.out.below Hc6.out))
      rw [eqB_refl] at k7
      go_wp2_with fail
      refine (k7.out).mono ?_
      rintro ee w107 ⟨rfl, hb7⟩
      have hsz7 := hb7.size
      have Hb7 := Lib.hid (Hb6.out.trans (hb7.mono (by have h1 := Hb6.out.size; omega)))
      have Hc7 := Lib.hid (Hc6.out.trans (hb7.mono (by have h1 := Hc6.out.size; omega)))
      have OX07 := Lib.hid (ownsRow_below' OX06.out hb7)
      have OX17 := Lib.hid (ownsRow_below' OX16.out hb7)
      have OG07 := Lib.hid (ownsRow_below' OG06.out hb7)
      have OG17 := Lib.hid (ownsRow_below' OG16.out hb7)
      clear hb7
      have k8 := Lib.hid (eqIntS_any aG1 aW1 r1.length cG1 r1.length cW1 r1 r1 w107 (by omega) (Sl.of_own OG17.out) (HW1.out.below Hc7.out))
      rw [eqB_refl] at k8
      go_wp2_with fail
      refine (k8.out).mono ?_
      rintro ee w108 ⟨rfl, hb8⟩
      have hsz8 := hb8.size
      have Hb8 := Lib.hid (Hb7.out.trans (hb8.mono (by have h1 := Hb7.out.size; omega)))
      have Hc8 := Lib.hid (Hc7.out.trans (hb8.mono (by have h1 := Hc7.out.size; omega)))
      have OX08 := Lib.hid (ownsRow_below' OX07.out hb8)
      have OX18 := Lib.hid (ownsRow_below' OX17.out hb8)
      have OG08 := Lib.hid (ownsRow_below' OG07.out hb8)
      have OG18 := Lib.hid (ownsRow_below' OG17.out hb8)
      clear hb8
      have k9 := Lib.hid (toIntS_any a1 n1 c1 xs w108 h12 (H.out.below Hb8.out))
      go_wp2_with fail
      refine (k9.out).mono ?_
      rintro ee w109 ⟨rfl, ho, hb9⟩
      have hsz9 := hb9.size
      have Hb9 := Lib.hid (Hb8.out.trans (hb9.mono (by have h1 := Hb8.out.size; omega)))
      have Hc9 := Lib.hid (Hc8.out.trans (hb9.mono (by have h1 := Hc8.out.size; omega)))
      have OX09 := Lib.hid (ownsRow_below' OX08.out hb9)
      have OX19 := Lib.hid (ownsRow_below' OX18.out hb9)
      have OG09 := Lib.hid (ownsRow_below' OG08.out hb9)
      have OG19 := Lib.hid (ownsRow_below' OG18.out hb9)
      have OA29 := Lib.hid ho
      clear hb9 ho
      have k10 := Lib.hid (eqIntS_any (some ⟨wW.heap.size, 0, none⟩) (some ⟨w108.heap.size, 0, none⟩) n1 n1 n1 n1 xs xs w109 (by omega) (Sl.of_own OX09.out) (Sl.of_own OA29.out))
      rw [eqB_refl] at k10
      go_wp2_with fail
      refine (k10.out).mono ?_
      rintro ee w110 ⟨rfl, hb10⟩
      have hsz10 := hb10.size
      have Hb10 := Lib.hid (Hb9.out.trans (hb10.mono (by have h1 := Hb9.out.size; omega)))
      have Hc10 := Lib.hid (Hc9.out.trans (hb10.mono (by have h1 := Hc9.out.size; omega)))
      have OX010 := Lib.hid (ownsRow_below' OX09.out hb10)
      have OX110 := Lib.hid (ownsRow_below' OX19.out hb10)
      have OG010 := Lib.hid (ownsRow_below' OG09.out hb10)
      have OG110 := Lib.hid (ownsRow_below' OG19.out hb10)
      have OA210 := Lib.hid (ownsRow_below' OA29.out hb10)
      clear hb10
      have k11 := Lib.hid (toIntS_any a2 n2 c2 ys w110 h13 (H'.out.below Hb10.out))
      go_wp2_with fail
      refine (k11.out).mono ?_
      rintro ee w111 ⟨rfl, ho, hb11⟩
      have hsz11 := hb11.size
      have Hb11 := Lib.hid (Hb10.out.trans (hb11.mono (by have h1 := Hb10.out.size; omega)))
      have Hc11 := Lib.hid (Hc10.out.trans (hb11.mono (by have h1 := Hc10.out.size; omega)))
      have OX011 := Lib.hid (ownsRow_below' OX010.out hb11)
      have OX111 := Lib.hid (ownsRow_below' OX110.out hb11)
      have OG011 := Lib.hid (ownsRow_below' OG010.out hb11)
      have OG111 := Lib.hid (ownsRow_below' OG110.out hb11)
      have OB211 := Lib.hid ho
      clear hb11 ho
      have k12 := Lib.hid (eqIntS_any (some ⟨w104.heap.size, 0, none⟩) (some ⟨w110.heap.size, 0, none⟩) n2 n2 n2 n2 ys ys w111 (by omega) (Sl.of_own OX111.out) (Sl.of_own OB211.out))
      rw [eqB_refl] at k12
      go_wp2_with fail
      refine (k12.out).mono ?_
      rintro ee w112 ⟨rfl, hb12⟩
      have hsz12 := hb12.size
      have Hb12 := Lib.hid (Hb11.out.trans (hb12.mono (by have h1 := Hb11.out.size; omega)))
      have Hc12 := Lib.hid (Hc11.out.trans (hb12.mono (by have h1 := Hc11.out.size; omega)))
      have OX012 := Lib.hid (ownsRow_below' OX011.out hb12)
      have OX112 := Lib.hid (ownsRow_below' OX111.out hb12)
      have OG012 := Lib.hid (ownsRow_below' OG011.out hb12)
      have OG112 := Lib.hid (ownsRow_below' OG111.out hb12)
      have OB212 := Lib.hid (ownsRow_below' OB211.out hb12)
      clear hb12
      have k13 := Lib.hid (markIntS_any wW.heap.size (some ⟨wW.heap.size, 0, none⟩) n1 n1 xs 1 w112 (by omega) (by omega) (by omega) OX012.out)
      go_wp2_with fail
      refine (k13.out).mono ?_
      rintro ee w113 ⟨rfl, ho, hb13, hg13⟩
      have hsz13 := hg13.size
      have Hb13 := Lib.hid (Hb12.out.trans (hb13.mono (by omega)))
      have Hc13 := Lib.hid (Hc12.out.trans (hb13.mono (by omega)))
      have OX113 := Lib.hid (OX112.out.kept hg13 (own_past (B := w104.heap.size) OX112.out (fun g e => by cases e; (try dsimp only); omega)))
      have OG013 := Lib.hid (OG012.out.kept hg13 (own_past (B := w105.heap.size) OG012.out (fun g e => by cases e; (try dsimp only); omega)))
      have OG113 := Lib.hid (OG112.out.kept hg13 (own_past (B := w105.heap.size) OG112.out (fun g e => by cases e; (try dsimp only); omega)))
      have OX013 := Lib.hid ho
      clear ho hb13 hg13
      have e1 : (0 : Int) ≤ 1 + (n1 : Int) := by omega
      have k14 := Lib.hid (markIntS_any w104.heap.size (some ⟨w104.heap.size, 0, none⟩) n2 n2 ys (1 + (n1 : Int)) w113 (by omega) (by omega) (by omega) OX113.out)
      go_wp2_with fail
      refine (k14.out).mono ?_
      rintro ee w114 ⟨rfl, ho, hb14, hg14⟩
      have hsz14 := hg14.size
      have Hb14 := Lib.hid (Hb13.out.trans (hb14.mono (by omega)))
      have Hc14 := Lib.hid (Hc13.out.trans (hb14.mono (by omega)))
      have OG014 := Lib.hid (OG013.out.kept hg14 (own_past (B := w105.heap.size) OG013.out (fun g e => by cases e; (try dsimp only); omega)))
      have OG114 := Lib.hid (OG113.out.kept hg14 (own_past (B := w105.heap.size) OG113.out (fun g e => by cases e; (try dsimp only); omega)))
      have OX114 := Lib.hid ho
      clear ho hb14 hg14
      have hge : ¬ ((1 : Int) + n1 + n2 < 0) := by omega
      have k15 := Lib.hid (eqIntS_any aG0 aW0 r0.length cG0 r0.length cW0 r0 r0 w114 (by omega) (Sl.of_own OG014.out) (HW0.out.below Hc14.out))
      rw [eqB_refl] at k15
      go_wp2_with fail
      refine (k15.out).mono ?_
      rintro ee w115 ⟨rfl, hb15⟩
      have hsz15 := hb15.size
      have Hb15 := Lib.hid (Hb14.out.trans (hb15.mono (by have h1 := Hb14.out.size; omega)))
      have Hc15 := Lib.hid (Hc14.out.trans (hb15.mono (by have h1 := Hc14.out.size; omega)))
      have OG015 := Lib.hid (ownsRow_below' OG014.out hb15)
      have OG115 := Lib.hid (ownsRow_below' OG114.out hb15)
      clear hb15
      have k16 := Lib.hid (eqIntS_any aG1 aW1 r1.length cG1 r1.length cW1 r1 r1 w115 (by omega) (Sl.of_own OG115.out) (HW1.out.below Hc15.out))
      rw [eqB_refl] at k16
      go_wp2_with fail
      refine (k16.out).mono ?_
      rintro ee w116 ⟨rfl, hb16⟩
      have hsz16 := hb16.size
      have Hb16 := Lib.hid (Hb15.out.trans (hb16.mono (by have h1 := Hb15.out.size; omega)))
      have Hc16 := Lib.hid (Hc15.out.trans (hb16.mono (by have h1 := Hc15.out.size; omega)))
      have OG016 := Lib.hid (ownsRow_below' OG015.out hb16)
      have OG116 := Lib.hid (ownsRow_below' OG115.out hb16)
      clear hb16
      have k17 := Lib.hid (markIntS_any w105.heap.size aG0 r0.length cG0 r0 1 w116 (by omega) (by omega) (by omega) OG016.out)
      go_wp2_with fail
      refine (k17.out).mono ?_
      rintro ee w117 ⟨rfl, ho, hb17, hg17⟩
      have hsz17 := hg17.size
      have Hb17 := Lib.hid (Hb16.out.trans (hb17.mono (by omega)))
      have Hc17 := Lib.hid (Hc16.out.trans (hb17.mono (by omega)))
      have OG117 := Lib.hid (OG116.out.kept hg17 HapG.out)
      have OG017 := Lib.hid ho
      clear ho hb17 hg17
      have e2 : (0 : Int) ≤ 1 + (r0.length : Int) := by omega
      have k18 := Lib.hid (markIntS_any w105.heap.size aG1 r1.length cG1 r1 (1 + (r0.length : Int)) w117 (by omega) (by omega) (by omega) OG117.out)
      go_wp2_with fail
      refine (k18.out).mono ?_
      rintro ee w118 ⟨rfl, ho, hb18, hg18⟩
      have hsz18 := hg18.size
      have Hb18 := Lib.hid (Hb17.out.trans (hb18.mono (by omega)))
      have Hc18 := Lib.hid (Hc17.out.trans (hb18.mono (by omega)))
      have OG018 := Lib.hid (OG017.out.kept hg18 HapG'.out)
      have OG118 := Lib.hid ho
      clear ho hb18 hg18
      have hge2 : ¬ ((1 : Int) + r0.length < 0) := by omega
      have hge3 : ¬ ((1 : Int) + r0.length + r1.length < 0) := by omega
      have hne : (((1 : Int) + r0.length + r1.length) != ((1 : Int) + r0.length + r1.length)) = false := by simp
      have k19 := Lib.hid (heldIntS_any aG0 r0.length cG0 1 w118 (by omega) (by omega) (by omega) (Sl.of_own OG018.out))
      go_wp2_with fail
      refine (k19.out).mono ?_
      rintro ee w119 ⟨rfl, hb19⟩
      have hsz19 := hb19.size
      have Hb19 := Lib.hid (Hb18.out.trans (hb19.mono (by have h1 := Hb18.out.size; omega)))
      have Hc19 := Lib.hid (Hc18.out.trans (hb19.mono (by have h1 := Hc18.out.size; omega)))
      have OG019 := Lib.hid (ownsRow_below' OG018.out hb19)
      have OG119 := Lib.hid (ownsRow_below' OG118.out hb19)
      clear hb19
      have k20 := Lib.hid (heldIntS_any aG1 r1.length cG1 (1 + (r0.length : Int)) w119 (by omega) (by omega) (by omega) (Sl.of_own OG119.out))
      go_wp2_with fail
      refine (k20.out).mono ?_
      rintro ee w120 ⟨rfl, hb20⟩
      have hsz20 := hb20.size
      have Hb20 := Lib.hid (Hb19.out.trans (hb20.mono (by have h1 := Hb19.out.size; omega)))
      have Hc20 := Lib.hid (Hc19.out.trans (hb20.mono (by have h1 := Hc19.out.size; omega)))
      have OG020 := Lib.hid (ownsRow_below' OG019.out hb20)
      have OG120 := Lib.hid (ownsRow_below' OG119.out hb20)
      clear hb20
      have k21 := Lib.hid (toIntS_any a1 n1 c1 xs w120 h12 (H.out.below Hb20.out))
      go_wp2_with fail
      refine (k21.out).mono ?_
      rintro ee w121 ⟨rfl, ho, hb21⟩
      have hsz21 := hb21.size
      have Hb21 := Lib.hid (Hb20.out.trans (hb21.mono (by have h1 := Hb20.out.size; omega)))
      have Hc21 := Lib.hid (Hc20.out.trans (hb21.mono (by have h1 := Hc20.out.size; omega)))
      have OG021 := Lib.hid (ownsRow_below' OG020.out hb21)
      have OG121 := Lib.hid (ownsRow_below' OG120.out hb21)
      have OA321 := Lib.hid ho
      clear hb21 ho
      have k22 := Lib.hid (toIntS_any a2 n2 c2 ys w121 h13 (H'.out.below Hb21.out))
      go_wp2_with fail
      refine (k22.out).mono ?_
      rintro ee w122 ⟨rfl, ho, hb22⟩
      have hsz22 := hb22.size
      have Hb22 := Lib.hid (Hb21.out.trans (hb22.mono (by have h1 := Hb21.out.size; omega)))
      have Hc22 := Lib.hid (Hc21.out.trans (hb22.mono (by have h1 := Hc21.out.size; omega)))
      have OG022 := Lib.hid (ownsRow_below' OG021.out hb22)
      have OG122 := Lib.hid (ownsRow_below' OG121.out hb22)
      have OA322 := Lib.hid (ownsRow_below' OA321.out hb22)
      have OB322 := Lib.hid ho
      clear hb22 ho
      have k23 := Lib.hid (impl_OrdDivide (some ⟨w120.heap.size, 0, none⟩) (some ⟨w121.heap.size, 0, none⟩) n1 n1 n2 n2 xs ys w122 (Sl.of_own OA322.out) (Sl.of_own OB322.out))
      unfold DivPost at k23
      rw [← Hr0.out, ← Hr1.out, ← Ho.out] at k23
      go_wp2_with fail
      refine (k23.out).mono ?_
      rintro ee w123 ⟨aH0, cH0, aH1, cH1, rfl, ho, ho', hapH, hb23⟩
      have hsz23 := hb23.size
      have Hb23 := Lib.hid (Hb22.out.trans (hb23.mono (by have h1 := Hb22.out.size; omega)))
      have Hc23 := Lib.hid (Hc22.out.trans (hb23.mono (by have h1 := Hc22.out.size; omega)))
      have OG023 := Lib.hid (ownsRow_below' OG022.out hb23)
      have OG123 := Lib.hid (ownsRow_below' OG122.out hb23)
      have OA323 := Lib.hid (ownsRow_below' OA322.out hb23)
      have OB323 := Lib.hid (ownsRow_below' OB322.out hb23)
      have OH023 := Lib.hid ho
      have OH123 := Lib.hid ho'
      have HapH' := Lib.hid hapH
      have HapH := Lib.hid (apart_flip hapH)
      clear ho ho' hapH hb23
      have k24 := Lib.hid (eqIntS_any aH0 aW0 r0.length cH0 r0.length cW0 r0 r0 w123 (by omega) (Sl.of_own OH023.out) (HW0.out.below Hc23.out))
      rw [eqB_refl] at k24
      go_wp2_with fail
      refine (k24.out).mono ?_
      rintro ee w124 ⟨rfl, hb24⟩
      have hsz24 := hb24.size
      have Hb24 := Lib.hid (Hb23.out.trans (hb24.mono (by have h1 := Hb23.out.size; omega)))
      have Hc24 := Lib.hid (Hc23.out.trans (hb24.mono (by have h1 := Hc23.out.size; omega)))
      have OG024 := Lib.hid (ownsRow_below' OG023.out hb24)
      have OG124 := Lib.hid (ownsRow_below' OG123.out hb24)
      have OA324 := Lib.hid (ownsRow_below' OA323.out hb24)
      have OB324 := Lib.hid (ownsRow_below' OB323.out hb24)
      have OH024 := Lib.hid (ownsRow_below' OH023.out hb24)
      have OH124 := Lib.hid (ownsRow_below' OH123.out hb24)
      clear hb24
      have k25 := Lib.hid (eqIntS_any aH1 aW1 r1.length cH1 r1.length cW1 r1 r1 w124 (by omega) (Sl.of_own OH124.out) (HW1.out.below Hc24.out))
      rw [eqB_refl] at k25
      go_wp2_with fail
      refine (k25.out).mono ?_
      rintro ee w125 ⟨rfl, hb25⟩
      have hsz25 := hb25.size
      have Hb25 := Lib.hid (Hb24.out.trans (hb25.mono (by have h1 := Hb24.out.size; omega)))
      have Hc25 := Lib.hid (Hc24.out.trans (hb25.mono (by have h1 := Hc24.out.size; omega)))
      have OG025 := Lib.hid (ownsRow_below' OG024.out hb25)
      have OG125 := Lib.hid (ownsRow_below' OG124.out hb25)
      have OA325 := Lib.hid (ownsRow_below' OA324.out hb25)
      have OB325 := Lib.hid (ownsRow_below' OB324.out hb25)
      have OH025 := Lib.hid (ownsRow_below' OH024.out hb25)
      have OH125 := Lib.hid (ownsRow_below' OH124.out hb25)
      clear hb25
      have k26 := Lib.hid (heldIntS_any aG0 r0.length cG0 1 w125 (by omega) (by omega) (by omega) (Sl.of_own OG025.out))
      go_wp2_with fail
      refine (k26.out).mono ?_
      rintro ee w126 ⟨rfl, hb26⟩
      have hsz26 := hb26.size
      have Hb26 := Lib.hid (Hb25.out.trans (hb26.mono (by have h1 := Hb25.out.size; omega)))
      have Hc26 := Lib.hid (Hc25.out.trans (hb26.mono (by have h1 := Hc25.out.size; omega)))
      have OG026 := Lib.hid (ownsRow_below' OG025.out hb26)
      have OG126 := Lib.hid (ownsRow_below' OG125.out hb26)
      have OA326 := Lib.hid (ownsRow_below' OA325.out hb26)
      have OB326 := Lib.hid (ownsRow_below' OB325.out hb26)
      have OH026 := Lib.hid (ownsRow_below' OH025.out hb26)
      have OH126 := Lib.hid (ownsRow_below' OH125.out hb26)
      clear hb26
      have k27 := Lib.hid (heldIntS_any aG1 r1.length cG1 (1 + (r0.length : Int)) w126 (by omega) (by omega) (by omega) (Sl.of_own OG126.out))
      go_wp2_with fail
      refine (k27.out).mono ?_
      rintro ee w127 ⟨rfl, hb27⟩
      have hsz27 := hb27.size
      have Hb27 := Lib.hid (Hb26.out.trans (hb27.mono (by have h1 := Hb26.out.size; omega)))
      have Hc27 := Lib.hid (Hc26.out.trans (hb27.mono (by have h1 := Hc26.out.size; omega)))
      have OG027 := Lib.hid (ownsRow_below' OG026.out hb27)
      have OG127 := Lib.hid (ownsRow_below' OG126.out hb27)
      have OA327 := Lib.hid (ownsRow_below' OA326.out hb27)
      have OB327 := Lib.hid (ownsRow_below' OB326.out hb27)
      have OH027 := Lib.hid (ownsRow_below' OH026.out hb27)
      have OH127 := Lib.hid (ownsRow_below' OH126.out hb27)
      clear hb27
      go_wp2_with fail
      go_ret
      exact ⟨rfl, Hb27.out⟩
    · have hgt : (1048576 : Int) < n2 := by omega
      have hle : (n1 : Int) ≤ 1048576 := by omega
      go_enter Try.func6, Try.ntmps6
      go_wp2_with fail
      go_ret
      exact ⟨rfl, Below.refl _ _⟩
  · have hgt : (1048576 : Int) < n1 := by omega
    go_enter Try.func6, Try.ntmps6
    go_wp2_with fail
    go_ret
    exact ⟨rfl, Below.refl _ _⟩

end Go.Proofs.Ytaleaagnkfbhpaa
