/- FnExactOrdFall: the walk of the law. -/
import Derived.Test.YtdcaefgbpnjjaaaFallS
import Derived.Test.YtdcaefgbpnjjaaaMarkSS
namespace Go.Proofs.Ytdcaefgbpnjjaaa
open Go.RowKit

theorem own_past {w : World} {B e n n' c' size : Nat} {a' : Option Addr} {v : Value} {xs : List Value} (h : w.ownsRow B e size v n xs) (hlt : ∀ g, Value.ownBlock (.slice a' n' c') = some g → g < B) :
    v.ownBlock = none ∨ v.ownBlock ≠ Value.ownBlock (.slice a' n' c') := by
  cases hv : v.ownBlock with
  | none => exact .inl rfl
  | some g =>
    refine .inr (fun he => ?_)
    have h1 := (h.lt g hv).1
    have h2 := hlt g he.symm
    omega

set_option maxHeartbeats 4000000 in
theorem exactOrdFall_walk (a1 : Option Addr) (n1 c1 : Nat) (xs : List Int) (a2 : Option Addr) (n2 c2 : Nat) (ys : List Int) (w : World) (h : Sl w a1 n1 c1 xs) (h' : Sl w a2 n2 c2 ys) :
    Calls Try.prog 4 #[.slice a1 n1 c1, .slice a2 n2 c2] w fun e w' => e = .returned (.bool true) ∧ Below w.heap.size w w' := by
  by_cases h20 : n1 ≤ 1048576
  · by_cases h21 : n2 ≤ 1048576
    · have h12 : n1 ≤ 1000000000000 := by omega
      have h13 : n2 ≤ 1000000000000 := by omega
      have H := Lib.hid h
      have H' := Lib.hid h'
      obtain ⟨fp, hfp⟩ : ∃ fp, fp = T.fallP xs ys := ⟨_, rfl⟩
      obtain ⟨ls, hls⟩ : ∃ ls, ls = fp.getD [] := ⟨_, rfl⟩
      obtain ⟨ok, hok⟩ : ∃ ok, ok = fp.isSome := ⟨_, rfl⟩
      obtain ⟨xss, hxs⟩ : ∃ xss, xss = ls.map T.enc := ⟨_, rfl⟩
      obtain ⟨N, hN⟩ : ∃ N, N = ls.length := ⟨_, rfl⟩
      have hfacts : N ≤ 3000 ∧ ∀ t ∈ xss, t.length ≤ 60 := by
        cases hf : fp with
        | none =>
          have hl0 : ls = [] := by rw [hls, hf]; rfl
          exact ⟨by rw [hN, hl0]; exact Nat.zero_le _, fun t ht => by rw [hxs, hl0] at ht; cases ht⟩
        | some m =>
          have hm : ls = m := by rw [hls, hf]; rfl
          rw [hf, T.fallP] at hfp
          split at hfp
          · rename_i hc
            obtain ⟨_, d2, d3⟩ := T.fall_desc hfp.symm
            refine ⟨by rw [hN, hm]; exact Nat.le_trans d2 hc.2.1, fun t ht => ?_⟩
            rw [hxs, hm] at ht
            obtain ⟨u, hu, rfl⟩ := List.mem_map.1 ht
            exact (T.vldB_true.1 (d3 u hu)).1
          · cases hfp
      have hN3 := hfacts.1
      have HV := Lib.hid hfacts.2
      have HN := Lib.hid (show N = xss.length by rw [hxs, List.length_map, hN])
      obtain ⟨tx, htx⟩ : ∃ tx, tx = tot xss := ⟨_, rfl⟩
      have htb : tx ≤ 180000 := by rw [htx]; have h1 := tot_le hfacts.2; have h2 := HN.out; omega
      have Htx := Lib.hid htx.symm
      have HN0 := Lib.hid hN
      have HX := Lib.hid hxs
      have Hfp := Lib.hid hfp
      have Hls := Lib.hid hls
      have Hok := Lib.hid hok
      have hok2 : (ok != ok) = false := by simp
      clear h h' hfp hls hok hxs hN hfacts htx
      go_enter Try.func4, Try.ntmps4
      have k1 := Lib.hid (toIntS_any a1 n1 c1 xs w h12 H.out)
      go_wp2_with fail
      refine (k1.out).mono ?_
      rintro ee w101 ⟨rfl, ho, hb1⟩
      have hsz1 := hb1.size
      have Hb1 := Lib.hid hb1
      have OA11 := Lib.hid ho
      clear hb1 ho
      have k2 := Lib.hid (toIntS_any a2 n2 c2 ys w101 h13 (H'.out.below Hb1.out))
      go_wp2_with fail
      refine (k2.out).mono ?_
      rintro ee w102 ⟨rfl, ho, hb2⟩
      have hsz2 := hb2.size
      have Hb2 := Lib.hid (Hb1.out.trans (hb2.mono (by have h1 := Hb1.out.size; omega)))
      have OA12 := Lib.hid (ownsRow_below' OA11.out hb2)
      have OB12 := Lib.hid ho
      clear hb2 ho
      have k3 := Lib.hid (spec_OrdFall (some ⟨w.heap.size, 0, none⟩) (some ⟨w101.heap.size, 0, none⟩) n1 n1 n2 n2 xs ys w102 (Sl.of_own OA12.out) (Sl.of_own OB12.out))
      unfold FallPost at k3
      rw [← Hfp.out, ← Hls.out, ← Hok.out] at k3
      go_wp2_with fail
      refine (k3.out).mono ?_
      rintro ee wW ⟨aW, nW, cW, vsW, rfl, hnW, ho, hr, hbW⟩
      have hszW := hbW.size
      have hszW := hbW.size
      have hnN : N = nW := by rw [hnW, HN0.out]
      subst hnN
      have OW := Lib.hid ho
      have RW := Lib.hid (show RowsI w102.heap.size wW vsW xss by rw [HX.out]; exact hr)
      have Hb3 := Lib.hid (Hb2.out.trans (hbW.mono (by have h1 := Hb2.out.size; omega)))
      have HcW := Lib.hid (Below.refl wW.heap.size wW)
      have hwW : w.heap.size ≤ wW.heap.size := Hb3.out.size
      clear ho hr hbW hnW
      have k4 := Lib.hid (toIntS_any a1 n1 c1 xs wW h12 (H.out.below Hb3.out))
      go_wp2_with fail
      refine (k4.out).mono ?_
      rintro ee w104 ⟨rfl, ho, hb4⟩
      have hsz4 := hb4.size
      have Hb4 := Lib.hid (Hb3.out.trans (hb4.mono (by have h1 := Hb3.out.size; omega)))
      have Hc4 := Lib.hid (HcW.out.trans (hb4.mono (by have h1 := HcW.out.size; omega)))
      have hltX0 := (ho.lt _ rfl).2
      have OX04 := Lib.hid ho
      clear hb4 ho
      have hw1 : wW.heap.size ≤ w104.heap.size := Hc4.out.size
      have k5 := Lib.hid (toIntS_any a2 n2 c2 ys w104 h13 (H'.out.below Hb4.out))
      go_wp2_with fail
      refine (k5.out).mono ?_
      rintro ee w105 ⟨rfl, ho, hb5⟩
      have hsz5 := hb5.size
      have Hb5 := Lib.hid (Hb4.out.trans (hb5.mono (by have h1 := Hb4.out.size; omega)))
      have Hc5 := Lib.hid (Hc4.out.trans (hb5.mono (by have h1 := Hc4.out.size; omega)))
      have OX05 := Lib.hid (ownsRow_below' OX04.out hb5)
      have hltX1 := (ho.lt _ rfl).2
      have OX15 := Lib.hid ho
      clear hb5 ho
      have hw2 : w104.heap.size ≤ w105.heap.size := hsz5
      have k6 := Lib.hid (impl_OrdFall (some ⟨wW.heap.size, 0, none⟩) (some ⟨w104.heap.size, 0, none⟩) n1 n1 n2 n2 xs ys w105 (Sl.of_own OX05.out) (Sl.of_own OX15.out))
      unfold FallPostI at k6
      rw [← Hfp.out, ← Hls.out, ← Hok.out] at k6
      go_wp2_with fail
      refine (k6.out).mono ?_
      rintro ee w106 ⟨aG, nG, cG, vsG, rfl, hnG, ho, hr, hb6, UG, hblk⟩
      have hsz6 := hb6.size
      have hnN : N = nG := by rw [hnG, HN0.out]
      subst hnN
      have Hb6 := Lib.hid (Hb5.out.trans (hb6.mono (by have h1 := Hb5.out.size; omega)))
      have Hc6 := Lib.hid (Hc5.out.trans (hb6.mono (by have h1 := Hc5.out.size; omega)))
      have OX06 := Lib.hid (ownsRow_below' OX05.out hb6)
      have OX16 := Lib.hid (ownsRow_below' OX15.out hb6)
      have OLG6 := Lib.hid ho
      have RLG6 := Lib.hid (show RowsI w105.heap.size w106 vsG xss by rw [HX.out]; exact hr)
      have BLG := Lib.hid hblk
      clear hb6 ho hr hblk hnG
      have k7 := Lib.hid (eqIntSS_same aG aW N cG cW w105.heap.size w105.heap.size w102.heap.size w102.heap.size vsG vsW xss w106 OLG6.out RLG6.out (ownsRow_below' OW.out Hc6.out) (RW.out.below Hc6.out) HN.out hN3 HV.out)
      go_wp2_with fail
      refine (k7.out).mono ?_
      rintro ee w107 ⟨rfl, hb7⟩
      have hsz7 := hb7.size
      have Hb7 := Lib.hid (Hb6.out.trans (hb7.mono (by have h1 := Hb6.out.size; omega)))
      have Hc7 := Lib.hid (Hc6.out.trans (hb7.mono (by have h1 := Hc6.out.size; omega)))
      have OX07 := Lib.hid (ownsRow_below' OX06.out hb7)
      have OX17 := Lib.hid (ownsRow_below' OX16.out hb7)
      have OLG7 := Lib.hid (ownsRow_below' OLG6.out hb7)
      have RLG7 := Lib.hid (RLG6.out.below hb7)
      clear hb7
      have k8 := Lib.hid (toIntS_any a1 n1 c1 xs w107 h12 (H.out.below Hb7.out))
      go_wp2_with fail
      refine (k8.out).mono ?_
      rintro ee w108 ⟨rfl, ho, hb8⟩
      have hsz8 := hb8.size
      have Hb8 := Lib.hid (Hb7.out.trans (hb8.mono (by have h1 := Hb7.out.size; omega)))
      have Hc8 := Lib.hid (Hc7.out.trans (hb8.mono (by have h1 := Hc7.out.size; omega)))
      have OX08 := Lib.hid (ownsRow_below' OX07.out hb8)
      have OX18 := Lib.hid (ownsRow_below' OX17.out hb8)
      have OLG8 := Lib.hid (ownsRow_below' OLG7.out hb8)
      have RLG8 := Lib.hid (RLG7.out.below hb8)
      have OA28 := Lib.hid ho
      clear hb8 ho
      have k9 := Lib.hid (eqIntS_any (some ⟨wW.heap.size, 0, none⟩) (some ⟨w107.heap.size, 0, none⟩) n1 n1 n1 n1 xs xs w108 (by omega) (Sl.of_own OX08.out) (Sl.of_own OA28.out))
      rw [eqB_refl] at k9
      go_wp2_with fail
      refine (k9.out).mono ?_
      rintro ee w109 ⟨rfl, hb9⟩
      have hsz9 := hb9.size
      have Hb9 := Lib.hid (Hb8.out.trans (hb9.mono (by have h1 := Hb8.out.size; omega)))
      have Hc9 := Lib.hid (Hc8.out.trans (hb9.mono (by have h1 := Hc8.out.size; omega)))
      have OX09 := Lib.hid (ownsRow_below' OX08.out hb9)
      have OX19 := Lib.hid (ownsRow_below' OX18.out hb9)
      have OA29 := Lib.hid (ownsRow_below' OA28.out hb9)
      have OLG9 := Lib.hid (ownsRow_below' OLG8.out hb9)
      have RLG9 := Lib.hid (RLG8.out.below hb9)
      clear hb9
      have k10 := Lib.hid (toIntS_any a2 n2 c2 ys w109 h13 (H'.out.below Hb9.out))
      go_wp2_with fail
      refine (k10.out).mono ?_
      rintro ee w110 ⟨rfl, ho, hb10⟩
      have hsz10 := hb10.size
      have Hb10 := Lib.hid (Hb9.out.trans (hb10.mono (by have h1 := Hb9.out.size; omega)))
      have Hc10 := Lib.hid (Hc9.out.trans (hb10.mono (by have h1 := Hc9.out.size; omega)))
      have OX010 := Lib.hid (ownsRow_below' OX09.out hb10)
      have OX110 := Lib.hid (ownsRow_below' OX19.out hb10)
      have OLG10 := Lib.hid (ownsRow_below' OLG9.out hb10)
      have RLG10 := Lib.hid (RLG9.out.below hb10)
      have OB210 := Lib.hid ho
      clear hb10 ho
      have k11 := Lib.hid (eqIntS_any (some ⟨w104.heap.size, 0, none⟩) (some ⟨w109.heap.size, 0, none⟩) n2 n2 n2 n2 ys ys w110 (by omega) (Sl.of_own OX110.out) (Sl.of_own OB210.out))
      rw [eqB_refl] at k11
      go_wp2_with fail
      refine (k11.out).mono ?_
      rintro ee w111 ⟨rfl, hb11⟩
      have hsz11 := hb11.size
      have Hb11 := Lib.hid (Hb10.out.trans (hb11.mono (by have h1 := Hb10.out.size; omega)))
      have Hc11 := Lib.hid (Hc10.out.trans (hb11.mono (by have h1 := Hc10.out.size; omega)))
      have OX011 := Lib.hid (ownsRow_below' OX010.out hb11)
      have OX111 := Lib.hid (ownsRow_below' OX110.out hb11)
      have OB211 := Lib.hid (ownsRow_below' OB210.out hb11)
      have OLG11 := Lib.hid (ownsRow_below' OLG10.out hb11)
      have RLG11 := Lib.hid (RLG10.out.below hb11)
      clear hb11
      have k12 := Lib.hid (markIntS_any wW.heap.size (some ⟨wW.heap.size, 0, none⟩) n1 n1 xs 1 w111 (by omega) (by omega) (by omega) OX011.out)
      go_wp2_with fail
      refine (k12.out).mono ?_
      rintro ee w112 ⟨rfl, ho, hb12, hg12⟩
      have hsz12 := hg12.size
      have Hb12 := Lib.hid (Hb11.out.trans (hb12.mono (by omega)))
      have Hc12 := Lib.hid (Hc11.out.trans (hb12.mono (by omega)))
      have OX112 := Lib.hid (OX111.out.kept hg12 (own_past (B := w104.heap.size) OX111.out (fun g e => by cases e; (try dsimp only); omega)))
      have OLG12 := Lib.hid (OLG11.out.kept hg12 (own_past (B := w105.heap.size) OLG11.out (fun g e => by cases e; (try dsimp only); omega)))
      have RLG12 := Lib.hid (RLG11.out.kept (fun g cur hB hc => hg12.block g (Array.getElem?_eq_some_iff.1 hc).1 (fun e => by have h7 : g = wW.heap.size := (by cases e; rfl); omega)))
      have OX012 := Lib.hid ho
      clear ho hb12 hg12
      have e1 : (0 : Int) ≤ 1 + (n1 : Int) := by omega
      have k13 := Lib.hid (markIntS_any w104.heap.size (some ⟨w104.heap.size, 0, none⟩) n2 n2 ys (1 + (n1 : Int)) w112 (by omega) (by omega) (by omega) OX112.out)
      go_wp2_with fail
      refine (k13.out).mono ?_
      rintro ee w113 ⟨rfl, ho, hb13, hg13⟩
      have hsz13 := hg13.size
      have Hb13 := Lib.hid (Hb12.out.trans (hb13.mono (by omega)))
      have Hc13 := Lib.hid (Hc12.out.trans (hb13.mono (by omega)))
      have OLG13 := Lib.hid (OLG12.out.kept hg13 (own_past (B := w105.heap.size) OLG12.out (fun g e => by cases e; (try dsimp only); omega)))
      have RLG13 := Lib.hid (RLG12.out.kept (fun g cur hB hc => hg13.block g (Array.getElem?_eq_some_iff.1 hc).1 (fun e => by have h7 : g = w104.heap.size := (by cases e; rfl); omega)))
      have OX113 := Lib.hid ho
      clear ho hb13 hg13
      have hge : ¬ ((1 : Int) + n1 + n2 < 0) := by omega
      have k14 := Lib.hid (eqIntSS_same aG aW N cG cW w105.heap.size w105.heap.size w102.heap.size w102.heap.size vsG vsW xss w113 OLG13.out RLG13.out (ownsRow_below' OW.out Hc13.out) (RW.out.below Hc13.out) HN.out hN3 HV.out)
      go_wp2_with fail
      refine (k14.out).mono ?_
      rintro ee w114 ⟨rfl, hb14⟩
      have hsz14 := hb14.size
      have Hb14 := Lib.hid (Hb13.out.trans (hb14.mono (by have h1 := Hb13.out.size; omega)))
      have Hc14 := Lib.hid (Hc13.out.trans (hb14.mono (by have h1 := Hc13.out.size; omega)))
      have OLG14 := Lib.hid (ownsRow_below' OLG13.out hb14)
      have RLG14 := Lib.hid (RLG13.out.below hb14)
      clear hb14
      have k15 := Lib.hid (markIntSS_any aG N cG w105.heap.size w105.heap.size UG vsG xss 1 w114 OLG14.out RLG14.out BLG.out HN.out hN3 HV.out (by decide) (by decide))
      rw [Htx.out] at k15
      go_wp2_with fail
      refine (k15.out).mono ?_
      rintro ee w115 ⟨rfl, ho, hr, hb15⟩
      have hsz15 := hb15.size
      have hsz15 := hb15.size
      have Hb15 := Lib.hid (Hb14.out.trans (hb15.mono (by omega)))
      have Hc15 := Lib.hid (Hc14.out.trans (hb15.mono (by omega)))
      have OLG15 := Lib.hid ho
      have RLG15 := Lib.hid hr
      clear ho hr hb15
      have hge2 : ¬ ((1 : Int) + tx < 0) := by omega
      have hne : (((1 : Int) + tx) != ((1 : Int) + tx)) = false := by simp
      have k16 := Lib.hid (heldIntSS_any aG N cG w105.heap.size w105.heap.size vsG xss 1 w115 OLG15.out RLG15.out HN.out hN3 HV.out (by decide) (by decide))
      rw [Htx.out] at k16
      go_wp2_with fail
      refine (k16.out).mono ?_
      rintro ee w116 ⟨rfl, hb16⟩
      have hsz16 := hb16.size
      have Hb16 := Lib.hid (Hb15.out.trans (hb16.mono (by have h1 := Hb15.out.size; omega)))
      have Hc16 := Lib.hid (Hc15.out.trans (hb16.mono (by have h1 := Hc15.out.size; omega)))
      have OLG16 := Lib.hid (ownsRow_below' OLG15.out hb16)
      have RLG16 := Lib.hid (RLG15.out.below hb16)
      clear hb16
      have k17 := Lib.hid (toIntS_any a1 n1 c1 xs w116 h12 (H.out.below Hb16.out))
      go_wp2_with fail
      refine (k17.out).mono ?_
      rintro ee w117 ⟨rfl, ho, hb17⟩
      have hsz17 := hb17.size
      have Hb17 := Lib.hid (Hb16.out.trans (hb17.mono (by have h1 := Hb16.out.size; omega)))
      have Hc17 := Lib.hid (Hc16.out.trans (hb17.mono (by have h1 := Hc16.out.size; omega)))
      have OLG17 := Lib.hid (ownsRow_below' OLG16.out hb17)
      have RLG17 := Lib.hid (RLG16.out.below hb17)
      have OA317 := Lib.hid ho
      clear hb17 ho
      have k18 := Lib.hid (toIntS_any a2 n2 c2 ys w117 h13 (H'.out.below Hb17.out))
      go_wp2_with fail
      refine (k18.out).mono ?_
      rintro ee w118 ⟨rfl, ho, hb18⟩
      have hsz18 := hb18.size
      have Hb18 := Lib.hid (Hb17.out.trans (hb18.mono (by have h1 := Hb17.out.size; omega)))
      have Hc18 := Lib.hid (Hc17.out.trans (hb18.mono (by have h1 := Hc17.out.size; omega)))
      have OA318 := Lib.hid (ownsRow_below' OA317.out hb18)
      have OLG18 := Lib.hid (ownsRow_below' OLG17.out hb18)
      have RLG18 := Lib.hid (RLG17.out.below hb18)
      have OB318 := Lib.hid ho
      clear hb18 ho
      have k19 := Lib.hid (impl_OrdFall (some ⟨w116.heap.size, 0, none⟩) (some ⟨w117.heap.size, 0, none⟩) n1 n1 n2 n2 xs ys w118 (Sl.of_own OA318.out) (Sl.of_own OB318.out))
      unfold FallPostI at k19
      rw [← Hfp.out, ← Hls.out, ← Hok.out] at k19
      go_wp2_with fail
      refine (k19.out).mono ?_
      rintro ee w119 ⟨aH, nH, cH, vsH, rfl, hnH, ho, hr, hb19, UH, hblk⟩
      have hsz19 := hb19.size
      have hnN : N = nH := by rw [hnH, HN0.out]
      subst hnN
      have Hb19 := Lib.hid (Hb18.out.trans (hb19.mono (by have h1 := Hb18.out.size; omega)))
      have Hc19 := Lib.hid (Hc18.out.trans (hb19.mono (by have h1 := Hc18.out.size; omega)))
      have OA319 := Lib.hid (ownsRow_below' OA318.out hb19)
      have OB319 := Lib.hid (ownsRow_below' OB318.out hb19)
      have OLG19 := Lib.hid (ownsRow_below' OLG18.out hb19)
      have RLG19 := Lib.hid (RLG18.out.below hb19)
      have OLH19 := Lib.hid ho
      have RLH19 := Lib.hid (show RowsI w118.heap.size w119 vsH xss by rw [HX.out]; exact hr)
      have BLH := Lib.hid hblk
      clear hb19 ho hr hblk hnH
      have k20 := Lib.hid (eqIntSS_same aH aW N cH cW w118.heap.size w118.heap.size w102.heap.size w102.heap.size vsH vsW xss w119 OLH19.out RLH19.out (ownsRow_below' OW.out Hc19.out) (RW.out.below Hc19.out) HN.out hN3 HV.out)
      go_wp2_with fail
      refine (k20.out).mono ?_
      rintro ee w120 ⟨rfl, hb20⟩
      have hsz20 := hb20.size
      have Hb20 := Lib.hid (Hb19.out.trans (hb20.mono (by have h1 := Hb19.out.size; omega)))
      have Hc20 := Lib.hid (Hc19.out.trans (hb20.mono (by have h1 := Hc19.out.size; omega)))
      have OA320 := Lib.hid (ownsRow_below' OA319.out hb20)
      have OB320 := Lib.hid (ownsRow_below' OB319.out hb20)
      have OLG20 := Lib.hid (ownsRow_below' OLG19.out hb20)
      have RLG20 := Lib.hid (RLG19.out.below hb20)
      have OLH20 := Lib.hid (ownsRow_below' OLH19.out hb20)
      have RLH20 := Lib.hid (RLH19.out.below hb20)
      clear hb20
      have k21 := Lib.hid (heldIntSS_any aG N cG w105.heap.size w105.heap.size vsG xss 1 w120 OLG20.out RLG20.out HN.out hN3 HV.out (by decide) (by decide))
      rw [Htx.out] at k21
      go_wp2_with fail
      refine (k21.out).mono ?_
      rintro ee w121 ⟨rfl, hb21⟩
      have hsz21 := hb21.size
      have Hb21 := Lib.hid (Hb20.out.trans (hb21.mono (by have h1 := Hb20.out.size; omega)))
      have Hc21 := Lib.hid (Hc20.out.trans (hb21.mono (by have h1 := Hc20.out.size; omega)))
      have OA321 := Lib.hid (ownsRow_below' OA320.out hb21)
      have OB321 := Lib.hid (ownsRow_below' OB320.out hb21)
      have OLG21 := Lib.hid (ownsRow_below' OLG20.out hb21)
      have RLG21 := Lib.hid (RLG20.out.below hb21)
      clear hb21
      go_wp2_with fail
      go_ret
      exact ⟨rfl, Hb21.out⟩
    · have hgt : (1048576 : Int) < n2 := by omega
      have hle : (n1 : Int) ≤ 1048576 := by omega
      go_enter Try.func4, Try.ntmps4
      go_wp2_with fail
      go_ret
      exact ⟨rfl, Below.refl _ _⟩
  · have hgt : (1048576 : Int) < n1 := by omega
    go_enter Try.func4, Try.ntmps4
    go_wp2_with fail
    go_ret
    exact ⟨rfl, Below.refl _ _⟩

end Go.Proofs.Ytdcaefgbpnjjaaa
