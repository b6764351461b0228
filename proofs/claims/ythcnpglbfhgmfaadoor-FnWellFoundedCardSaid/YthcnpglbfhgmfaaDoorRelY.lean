/- Relations: RelClosed of program and model. -/
import Derived.Test.YthcnpglbfhgmfaaDoorRelX
import Derived.Test.YthcnpglbfhgmfaaDoorRelE
import Derived.Test.YthcnpglbfhgmfaaDoorRelF
namespace Go.Proofs.YthcnpglbfhgmfaaDoor
set_option maxRecDepth 100000
open Go.RowKit

theorem or_less {a b : Nat} (h : a ||| b ≠ a) : a < a ||| b := by
  have := or_ge a b; omega
theorem set_last (xs : List Int) (k : Nat) (v : Int) (z : Value) (zs : List Value) (h : xs.length = k) :
    (ints xs ++ z :: zs).set k (.int .i64 v) = ints (xs ++ [v]) ++ zs := by
  have hl : (ints xs).length = k := by rw [ints_len, h]
  rw [List.set_append_right _ _ (by omega), hl, Nat.sub_self]
  simp [ints]
theorem cl_measure {n t : Nat} (h : t < n) : n + 1 - (intOf (.int .i64 ((t : Int) + 1 + 1))).toNat < n + 1 - (intOf (.int .i64 ((t : Int) + 1))).toNat := by
  simp [intOf]; omega
theorem reach_measure {a b : Nat} (h : a < b) (hb : b < 4096) : 4096 - (intOf (.int .i64 (b : Int))).toNat < 4096 - (intOf (.int .i64 (a : Int))).toNat := by
  simp [intOf]; omega

set_option maxHeartbeats 2000000 in
theorem reachedFrom_any (ao : Option Addr) (n c : Nat) (xs : List Int) (k : Nat) (w : World) (h : Sl w ao n c xs) (hR : RelOk xs) (hk : k < n) (hT : Tab w) :
    Calls Tryd.prog 56 #[.slice ao n c, .int .i64 (rw' xs k : Nat)] w fun e w' => e = .returned (.int .i64 (un xs k n : Nat)) ∧ Below w.heap.size w w' := by
  have hl := h.1
  have H := Lib.hid h
  have HR := Lib.hid hR
  have HT := Lib.hid hT
  have htl := hT.lt
  have HK := Lib.hid (show k < xs.length by rw [hl]; exact hk)
  have hr0 := hR.row k
  rw [hl] at hr0
  have hn12 := hR.1
  rw [hl] at hn12
  have HL := Lib.hid hl
  have Hst := Lib.hid (show ∀ b, (rw' xs k).testBit b = true → (un xs k n).testBit b = true from fun b hb => by
    have h9 := un_all hR (k := k) (by rw [hl]; exact hk) (i := 1) (b := b) (by omega) (by rw [walk_one hR (by rw [hl]; exact hk)]; exact hb)
    rw [hl] at h9; exact h9)
  have HF := Lib.hid (fun (s : Nat) hs h1 h2 h3 => un_fix hR (k := k) (by rw [hl]; exact hk) (s := s) hs h1 h2 h3)
  rw [hl] at HF
  obtain ⟨U, hU⟩ : ∃ U, U = un xs k n := ⟨_, rfl⟩
  obtain ⟨r, hr⟩ : ∃ r, r = rw' xs k := ⟨_, rfl⟩
  rw [← hU] at Hst HF ⊢
  rw [← hr] at Hst HF hr0 ⊢
  have HU := Lib.hid hU
  clear h hR hT hl hU hr
  go_enter Tryd.func56, Tryd.ntmps56
  go_wp2_with fail
  go_loopw [1, 5] (fun v1 _ wr => ∃ s : Nat, v1 = .int .i64 s ∧ s < 2 ^ n ∧ Hid (∀ b, r.testBit b = true → s.testBit b = true) ∧ Hid (∀ b, s.testBit b = true → U.testBit b = true) ∧ Below w.heap.size w wr) (fun v1 _ _ => 4096 - (intOf v1).toNat)
  case atStart => exact ⟨r, rfl, hr0, fun _ h9 => h9, Hst.out, Below.refl _ _⟩
  case round =>
    obtain ⟨s, rfl, hs, H1, H2, hb⟩ := hrel
    have hs4 : s < 4096 := Nat.lt_of_lt_of_le hs (two_le hn12.2)
    have ks := Lib.hid (stepFrom_any ao n c xs s wr (H.out.below hb) HR.out hs (HT.out.below hb htl))
    have hst9 := step_lt HR.out s
    rw [HL.out] at hst9
    have hst4 : step xs s < 4096 := Nat.lt_of_lt_of_le hst9 (two_le hn12.2)
    have ho := or_i64 s (step xs s) (by omega) (by omega)
    have hom : s ||| step xs s < 2 ^ n := Nat.or_lt_two_pow hs hst9
    have hom4 : s ||| step xs s < 4096 := Nat.lt_of_lt_of_le hom (two_le hn12.2)
    have HB := Lib.hid hb
    have H3 := Lib.hid (show ∀ b, (s ||| step xs s).testBit b = true → U.testBit b = true from fun b hb9 => by
      rw [Nat.testBit_or, Bool.or_eq_true] at hb9
      rcases hb9 with h9 | h9
      · exact H2.out b h9
      · have h8 := un_closed HR.out HK.out hs4 (fun b' hb' => by rw [HL.out, ← HU.out]; exact H2.out b' hb') h9
        rw [HL.out, ← HU.out] at h8
        exact h8)
    have H4 := Lib.hid (show ∀ b, r.testBit b = true → (s ||| step xs s).testBit b = true from fun b hb9 => by rw [Nat.testBit_or, H1.out b hb9, Bool.true_or])
    have HF2 := Lib.hid (fun (he : s ||| step xs s = s) => HF.out s hs H1.out he H2.out)
    have Hless := Lib.hid (fun (he : s ||| step xs s ≠ s) => or_less he)
    obtain ⟨o, hoo⟩ : ∃ o, o = s ||| step xs s := ⟨_, rfl⟩
    obtain ⟨t, ht⟩ : ∃ t, t = step xs s := ⟨_, rfl⟩
    rw [← hoo] at ho hom hom4 H3 H4 HF2 Hless
    rw [← ht] at ho ks hst4
    clear hoo ht hb hst9
    by_cases he : o = s
    · have hq : ((o : Int) == (s : Int)) = true := by simp [he]
      have hUs := HF2.out he
      have HUs := Lib.hid hUs
      clear he hUs
      go_wp2_with fail
      refine (ks.out).mono ?_
      rintro ee w2 ⟨rfl, hb2⟩
      have HB2 := Lib.hid (HB.out.trans (hb2.mono HB.out.size))
      clear hb2
      go_wp2_with fail
      rw [← HUs.out]
      go_ret
      exact ⟨rfl, HB2.out⟩
    · have hq : ((o : Int) == (s : Int)) = false := by simp; omega
      have hless := Hless.out he
      have HL9 := Lib.hid hless
      clear he hless
      go_wp2_with fail
      refine (ks.out).mono ?_
      rintro ee w2 ⟨rfl, hb2⟩
      have HB2 := Lib.hid (HB.out.trans (hb2.mono HB.out.size))
      clear hb2
      go_wp2_with fail
      go_roundw
      case rel => exact ⟨o, rfl, hom, H4.out, H3.out, HB2.out⟩
      case measure => exact reach_measure HL9.out hom4

set_option maxHeartbeats 4000000 in
theorem impl_RelClosed (ao : Option Addr) (n c : Nat) (xs : List Int) (w : World) (h : Sl w ao n c xs) (hT : Tab w) :
    Calls Tryd.prog 24 #[.slice ao n c] w (RkPost w (closedV xs)) := by
  obtain ⟨i0, hi, hz0, hz1, hz2⟩ := info_parts info_int
  have k1 := Lib.hid (iRelValid_any ao n c xs w h)
  have HL := Lib.hid h.1
  have H := Lib.hid h
  have HT := Lib.hid hT
  have htl := hT.lt
  obtain ⟨r, hr⟩ : ∃ r, r = closedV xs := ⟨_, rfl⟩
  have HNo : Hid (¬ RelOk xs → r = []) := fun h9 => hr.trans (closedV_no h9)
  have HYes : Hid (RelOk xs → r = closedN xs n) := fun h1 => by rw [hr, closedV_in h1, h.1]
  rw [← hr]
  clear h hr hT
  rcases rel_tf xs with h1 | h1
  · rw [h1] at k1
    have hR := relB_true.1 h1
    have hn12 := hR.1
    rw [HL.out] at hn12
    obtain ⟨b, off, rfl, hat⟩ := H.out.2.2.2 (by omega)
    have hbl : b < w.heap.size := hat.lt (by intro h9; have := HL.out; rw [h9] at this; simp at this; omega)
    have HA := Lib.hid hat
    have HR := Lib.hid hR
    have HRr := Lib.hid (HYes.out hR)
    clear h1 hR hat
    go_enter Tryd.func24, Tryd.ntmps24
    go_wp2_with fail
    refine (k1.out).mono ?_
    rintro ee wx ⟨rfl, rfl⟩
    go_wp2_with (first
      | (at_make; refine wpList_make_full _ rfl (.tmp 10) (.tmp 10) 23 rfl w.heap.size 3 i0 _ 1 Tryd.underlying23 hi hz0 hz1 .i64 .i64 _ _ n rfl rfl rfl rfl (by rw [hz2]; omega) (by unfold maxLen; omega) (Nat.le_refl _) ?_; intro w1 hown hg1))
    have hst : w1.ownsRow w.heap.size 3 1 (.slice (some ⟨w.heap.size, 0, none⟩) n n) n (ints (closedN xs 0) ++ (madeCells (Value.int .i64 0).cells (n * 1)).toList) := hown
    have Hst := Lib.hid hst
    have Hb1 := Lib.hid ((Below.refl _ _).grown hg1 (Nat.le_refl _) (fun k hk => by cases hk))
    clear hown hst hg1
    go_loopw [4, 5, 14] (fun _ _ v14 wr => ∃ (k : Nat) (zs : List Value), k ≤ n ∧ v14 = .int .i64 k ∧ wr.ownsRow w.heap.size 3 1 (.slice (some ⟨w.heap.size, 0, none⟩) n n) n (ints (closedN xs k) ++ zs) ∧ Below w.heap.size w wr) (fun _ _ v14 _ => n - (intOf v14).toNat)
    case atStart => exact ⟨0, _, Nat.zero_le _, rfl, Hst.out, Hb1.out⟩
    case round =>
      obtain ⟨k, zs, hk, rfl, ho, hbel⟩ := hrel
      have HO := Lib.hid ho
      have HB := Lib.hid hbel
      have hlen := ho.1
      rw [List.length_append, ints_len, closedN_len] at hlen
      by_cases hlt : k < n
      · obtain ⟨z, zs', rfl⟩ : ∃ z zs', zs = z :: zs' := by
          cases zs with
          | nil => simp at hlen <;> omega
          | cons z zs' => exact ⟨z, zs', rfl⟩
        have y0 : wr.cell? ⟨b, off + k, none⟩ = some (.int .i64 (rw' xs k : Nat)) := by
          have h9 := (HA.out.below hbel hbl) k (by rw [HL.out]; exact hlt)
          rw [h9, HR.out.row_int (by rw [HL.out]; exact hlt)]
        have kf := Lib.hid (reachedFrom_any (some ⟨b, off, none⟩) n c xs k wr (H.out.below hbel) HR.out hlt (HT.out.below hbel htl))
        have hsn := closedN_snoc xs k
        rw [HL.out] at hsn
        have Hsn := Lib.hid hsn
        obtain ⟨U, hU⟩ : ∃ U, U = un xs k n := ⟨_, rfl⟩
        rw [← hU] at kf Hsn
        obtain ⟨rk, hrk⟩ : ∃ rk, rk = rw' xs k := ⟨_, rfl⟩
        rw [← hrk] at kf y0
        clear hU hrk hsn ho hbel hlen
        go_wp2_with fail
        refine (kf.out).mono ?_
        rintro ee w2 ⟨rfl, hb2⟩
        have HO2 := Lib.hid (ownsRow_below' HO.out hb2)
        have HB2 := Lib.hid (HB.out.trans (hb2.mono HB.out.size))
        have hc : w2.cell? ⟨w.heap.size, k, none⟩ = some z := by
          have hl : (ints (closedN xs k)).length = k := by rw [ints_len, closedN_len]
          rw [HO2.out.cellAt _ (by omega), List.getElem?_append_right (by omega), hl, Nat.sub_self]
          rfl
        have hf := HO2.out.frozenAt k
        have h7 := (HO2.out.stored k (.int .i64 (U : Int))).1
        rw [set_last _ k _ _ _ (closedN_len xs k), ← Hsn.out] at h7
        have H7 := Lib.hid h7
        have HB7 := Lib.hid (HB2.out.setCell (p := ⟨w.heap.size, k, none⟩) (Nat.le_refl _) (.int .i64 (U : Int)))
        clear hb2 h7
        go_wp2_with fail
        go_roundw
        case rel => exact ⟨k + 1, zs', by omega, by go_num, H7.out, HB7.out⟩
        case measure => exact idx_measure hlt
      · obtain rfl : k = n := by omega
        have hz : zs = [] := List.length_eq_zero_iff.1 (by omega)
        have hrl : r.length = k := by rw [HRr.out, closedN_len]
        have hfin : RkPost w r (.returned (.slice (some ⟨w.heap.size, 0, none⟩) k k)) wr := by
          rw [hz, List.append_nil, ← HRr.out] at ho
          refine ⟨_, k, by rw [hrl], ?_, hbel⟩
          rw [hrl]; exact ho
        have Hfin := Lib.hid hfin
        clear hfin hz hrl ho hbel hlen
        go_wp2_with fail
        go_ret
        exact Hfin.out
  · rw [h1] at k1
    obtain rfl := HNo.out (relB_false h1)
    clear h1
    go_enter Tryd.func24, Tryd.ntmps24
    go_wp2_with fail
    refine (k1.out).mono ?_
    rintro ee wx ⟨rfl, rfl⟩
    go_wp2_with fail
    go_ret
    exact ⟨none, 0, rfl, ⟨rfl, .inl ⟨rfl, rfl⟩⟩, Below.refl _ _⟩

def ClApp (w : World) (xs : List Int) (n k : Nat) (v3 : Value) (wr : World) : Prop :=
  ∃ (g c : Nat), v3 = .slice (some ⟨g, 0, none⟩) k c ∧ wr.ownsRow w.heap.size 3 1 v3 k (ints (closedN xs k)) ∧ Below w.heap.size w wr ∧ k ≤ n

set_option maxHeartbeats 8000000 in
theorem spec_RelClosed (ao : Option Addr) (n c : Nat) (xs : List Int) (w : World) (h : Sl w ao n c xs) :
    Calls Tryd.prog 40 #[.slice ao n c] w (RkPost w (closedV xs)) := by
  have hn9 : n ≤ 9223372036854775807 := by have h2 := h.2.1; have h3 := h.2.2.1; unfold maxLen at h3; omega
  obtain ⟨i0, hi, hz0, hz1, hz2⟩ := info_parts info_int
  have HL := Lib.hid h.1
  have H := Lib.hid h
  obtain ⟨r, hr⟩ : ∃ r, r = closedV xs := ⟨_, rfl⟩
  have HNo : Hid (¬ RelOk xs → r = []) := fun h9 => hr.trans (closedV_no h9)
  have HYes : Hid (RelOk xs → r = closedN xs n) := fun h1 => by rw [hr, closedV_in h1, h.1]
  rw [← hr]
  obtain ⟨W, hW⟩ : ∃ W, W = w.alloc (.cells #[] 3) := ⟨_, rfl⟩
  have hbW : Below w.heap.size w W := by rw [hW]; exact (Below.refl _ _).alloc (Nat.le_refl _) _
  have hoW : W.ownsRow w.heap.size 3 1 (.slice (some ⟨w.heap.size, 0, none⟩) 0 0) 0 (ints []) := by rw [hW]; exact World.ownsRow_lit w #[] 0 (Nat.le_refl _) (by simp [maxLen]) rfl
  have kv := Lib.hid (fun wx hb => spec_RelValid ao n c xs wx (h.below (w' := wx) hb))
  have HbW := Lib.hid hbW
  have HoW := Lib.hid hoW
  have HWe := Lib.hid hW.symm
  have hws := hbW.size
  clear h hr hbW hoW hW
  have Hst := Lib.hid (show ClApp w xs n 0 (.slice (some ⟨w.heap.size, 0, none⟩) 0 0) W from ⟨_, 0, rfl, HoW.out, HbW.out, Nat.zero_le _⟩)
  rcases rel_tf xs with h1 | h1
  · rw [h1] at kv
    have hR := relB_true.1 h1
    have hn12 := hR.1
    rw [HL.out] at hn12
    have HR := Lib.hid hR
    have HRr := Lib.hid (HYes.out hR)
    clear h1 hR
    go_enter Tryd.func40, Tryd.ntmps40
    go_wp2_with fail
    rw [HWe.out]
    go_loopw [3, 4] (fun v3 v4 wr => ∃ k : Nat, v4 = .int .i64 k ∧ ClApp w xs n k v3 wr) (fun _ v4 _ => n - (intOf v4).toNat)
    case atStart => exact ⟨0, rfl, Hst.out⟩
    case round =>
      obtain ⟨k, rfl, g3, c3, rfl, ho3, hb3, hk⟩ := hrel
      have Ho3 := Lib.hid ho3
      have Hb3 := Lib.hid hb3
      have hw3 := hb3.size
      clear ho3 hb3
      by_cases hlt : k < n
      · have k1 := Lib.hid (kv.out wr Hb3.out)
        have hkx : k < xs.length := by rw [HL.out]; exact hlt
        have HKx := Lib.hid hkx
        clear hkx
        go_wp2_with fail
        refine (k1.out).mono ?_
        rintro ee w2 ⟨rfl, hb2⟩
        have Ho2 := Lib.hid (ownsRow_below' Ho3.out hb2)
        have Hb2 := Lib.hid (Hb3.out.trans (hb2.mono hw3))
        have hw2 := Hb2.out.size
        clear hb2
        go_wp2_with fail
        go_loopw [5, 6, 7] (fun v5 v6 _ wr => ∃ t s : Nat, t ≤ n ∧ v6 = .int .i64 ((t : Int) + 1) ∧ v5 = .int .i64 s ∧ Hid (PartU xs k t 0 s) ∧ Below w2.heap.size w2 wr) (fun _ v6 _ _ => n + 1 - (intOf v6).toNat)
        case atStart => exact ⟨0, 0, Nat.zero_le _, rfl, rfl, PartU.start k, Below.refl _ _⟩
        case round =>
          obtain ⟨t, s0, ht, rfl, rfl, HP0, hb5⟩ := hrel
          have Hb5 := Lib.hid hb5
          clear hb5
          by_cases htl : t < n
          · have kw := Lib.hid (spec_WalksTo ao n c xs k ((t : Int) + 1) wr (H.out.below (Hb2.out.trans (Hb5.out.mono hw2))))
            have hwv := walkV_yes k (t + 1) HR.out HKx.out (by omega)
            have e1 : ((t + 1 : Nat) : Int) = (t : Int) + 1 := by omega
            rw [e1] at hwv
            rw [hwv] at kw
            have hwl := walkN_lt HR.out (s := 2 ^ k) (two_lt HKx.out) (t + 1)
            rw [HL.out] at hwl
            obtain ⟨m, hm⟩ : ∃ m, m = walkN xs (2 ^ k) (t + 1) := ⟨_, rfl⟩
            rw [← hm] at kw hwl
            have HM := Lib.hid hm
            have hm4 : m < 4096 := Nat.lt_of_lt_of_le hwl (two_le hn12.2)
            clear hwv e1 hm hwl
            go_wp2_with fail
            refine (kw.out).mono ?_
            rintro ee w6 ⟨rfl, hb6⟩
            have Hb6 := Lib.hid (Hb5.out.trans (hb6.mono Hb5.out.size))
            clear hb6
            go_wp2_with fail
            go_loopw [5, 8] (fun v5 v8 wr => ∃ j s : Nat, j ≤ n ∧ v8 = .int .i64 j ∧ v5 = .int .i64 s ∧ Hid (PartU xs k t j s) ∧ w6 = wr) (fun _ v8 _ => n - (intOf v8).toNat)
            case atStart => exact ⟨0, s0, Nat.zero_le _, rfl, rfl, HP0.out, rfl⟩
            case round =>
              obtain ⟨j, s, hj, rfl, rfl, HP, rfl⟩ := hrel
              have hs9 := HP.out.1
              rw [HL.out] at hs9
              have hs4 : s < 4096 := Nat.lt_of_lt_of_le hs9 (two_le hn12.2)
              clear hs9
              by_cases hjl : j < n
              · rcases bit_tf m j with hA | hA
                · have ka := Lib.hid (bitI_k1 hA (fun wx => l7Bit_any m j (by omega) wx))
                  have HAa := Lib.hid hA
                  clear hA
                  rcases bit_tf s j with hB | hB
                  · have kb := Lib.hid (bitI_k1 hB (fun wx => l7Bit_any s j (by omega) wx))
                    have HP2 := Lib.hid (HP.out.skip (.inr hB))
                    clear hB
                    go_wp2_with fail
                    refine (ka.out _).mono ?_
                    rintro ee wx ⟨rfl, rfl⟩
                    go_wp2_with fail
                    refine (kb.out _).mono ?_
                    rintro ee wx ⟨rfl, rfl⟩
                    go_wp2_with fail
                    go_roundw
                    case rel => exact ⟨j + 1, s, by omega, by go_num, rfl, HP2.out, by trivial⟩
                    case measure => exact idx_measure hjl
                  · have kb := Lib.hid (bitI_k0 hB (fun wx => l7Bit_any s j (by omega) wx))
                    have HP2 := Lib.hid (HP.out.put (by rw [HL.out]; exact hjl) (by rw [← HM.out]; exact HAa.out) hB)
                    have hj7 := wrap_pow j (by omega)
                    have hj8 := wrap_pow' j (by omega)
                    have hj9 : 2 ^ j ≤ 4096 := two_le (by omega)
                    obtain ⟨u, hu⟩ : ∃ u, u = 2 ^ j := ⟨_, rfl⟩
                    rw [← hu] at HP2 hj7 hj8 hj9
                    clear hB hu
                    go_wp2_with fail
                    refine (ka.out _).mono ?_
                    rintro ee wx ⟨rfl, rfl⟩
                    go_wp2_with fail
                    refine (kb.out _).mono ?_
                    rintro ee wx ⟨rfl, rfl⟩
                    go_wp2_with fail
                    try simp only [hj7, hj8]
                    go_roundw
                    case rel => exact ⟨j + 1, s + u, by omega, by go_num, by rw [sum_wrap hs4 hj9], HP2.out, by trivial⟩
                    case measure => exact idx_measure hjl
                · have ka := Lib.hid (bitI_k0 hA (fun wx => l7Bit_any m j (by omega) wx))
                  have HP2 := Lib.hid (HP.out.skip (.inl (by rw [← HM.out]; exact hA)))
                  clear hA
                  go_wp2_with fail
                  refine (ka.out _).mono ?_
                  rintro ee wx ⟨rfl, rfl⟩
                  go_wp2_with fail
                  go_roundw
                  case rel => exact ⟨j + 1, s, by omega, by go_num, rfl, HP2.out, by trivial⟩
                  case measure => exact idx_measure hjl
              · obtain rfl : j = n := by omega
                have hP2 : PartU xs k (t + 1) 0 s := by
                  have h9 := HP.out
                  rw [← HL.out] at h9
                  exact h9.next HR.out HKx.out
                have HP2 := Lib.hid hP2
                clear hP2
                go_wp2_with fail
                go_roundw
                case rel => exact ⟨t + 1, s, by omega, by go_num, rfl, HP2.out, Hb6.out⟩
                case measure => exact cl_measure htl
          · obtain rfl : t = n := by omega
            have hs0 := HP0.out.done
            have HO := Lib.hid (ownsRow_below' Ho2.out Hb5.out)
            have HB := Lib.hid (Hb2.out.trans (Hb5.out.mono hw2))
            have hwr := HB.out.size
            have hsn := closedN_snoc xs k
            rw [HL.out, ← hs0] at hsn
            have Hsn := Lib.hid hsn
            obtain ⟨wB, rfl⟩ : ∃ wB : World, wB = wr := ⟨_, rfl⟩
            clear hs0 hsn
            go_wp2_with (first
              | (at_builtin; refine wpList_append_own _ rfl (.tmp 50) (.tmp 52) 23 rfl w.heap.size 3 i0 (.int .i64 0) 1 8 Tryd.underlying23 hi hz0 hz1 hz2 rfl (by decide) _ k (ints (closedN xs k)) rfl (HO.out.alloc _) ⟨wB.heap.size, 0, none⟩ 1 1 [.int .i64 (s0 : Int)] rfl rfl (cell_one_new _ _ _) (ints_oneCell _ [(s0 : Int)]) (by unfold maxLen; omega) (by omega) (by simp; omega) ?_; intro v4 wC ho4 hg4 _; obtain ⟨g6, c6, rfl⟩ := Joins.ownsRow_form ho4 (by omega)))
            have hfin : ClApp w xs t (k + 1) (.slice (some ⟨g6, 0, none⟩) (k + 1) c6) wC := by
              refine ⟨g6, c6, rfl, ?_, (HB.out.alloc hwr _).grown hg4 (by simp; omega) (fun r e => (HO.out.lt r e).1), hlt⟩
              rw [Hsn.out]
              simpa [ints] using ho4
            have Hfin := Lib.hid hfin
            clear hfin ho4 hg4
            go_wp2_with fail
            go_roundw
            case rel => exact ⟨k + 1, by go_num, Hfin.out⟩
            case measure => exact idx_measure hlt
      · obtain rfl : k = n := by omega
        have hrl : r.length = k := by rw [HRr.out, closedN_len]
        have hfin : RkPost w r (.returned (.slice (some ⟨g3, 0, none⟩) k c3)) wr := by
          have h9 := Ho3.out
          rw [← HRr.out] at h9
          refine ⟨_, c3, by rw [hrl], ?_, Hb3.out⟩
          rw [hrl]; exact h9
        have Hfin := Lib.hid hfin
        clear hfin hrl
        go_wp2_with fail
        go_ret
        exact Hfin.out
  · rw [h1] at kv
    obtain rfl := HNo.out (relB_false h1)
    clear h1
    go_enter Tryd.func40, Tryd.ntmps40
    go_wp2_with fail
    rw [HWe.out]
    go_loopw [3, 4] (fun v3 v4 wr => v4 = .int .i64 0 ∧ v3 = .slice (some ⟨w.heap.size, 0, none⟩) 0 0 ∧ W = wr) (fun _ _ _ => 0)
    case atStart => exact ⟨rfl, rfl, rfl⟩
    case round =>
      obtain ⟨rfl, rfl, rfl⟩ := hrel
      by_cases hn0 : 0 < n
      · have hn0' : decide ((0 : Int) < (n : Int)) = true := by simp; omega
        go_wp2_with fail
        refine (kv.out _ HbW.out).mono ?_
        rintro ee w2 ⟨rfl, hb2⟩
        have hfin : RkPost w [] (.returned (.slice (some ⟨w.heap.size, 0, none⟩) 0 0)) w2 := ⟨_, 0, rfl, ownsRow_below' HoW.out hb2, HbW.out.trans (hb2.mono hws)⟩
        have Hfin := Lib.hid hfin
        clear hb2 hfin
        go_wp2_with fail
        go_ret
        exact Hfin.out
      · have hn0' : decide ((0 : Int) < (n : Int)) = false := by simp; omega
        have hfin : RkPost w [] (.returned (.slice (some ⟨w.heap.size, 0, none⟩) 0 0)) W := ⟨_, 0, rfl, HoW.out, HbW.out⟩
        have Hfin := Lib.hid hfin
        clear hfin
        go_wp2_with fail
        go_ret
        exact Hfin.out

end Go.Proofs.YthcnpglbfhgmfaaDoor
