/- FnBagOf: the walk of the law. -/
import Derived.Test.YtgkcpmhgmhioiaaDrawBagP
import Derived.Test.YtgkcpmhgmhioiaaBagV
namespace Go.Proofs.Ytgkcpmhgmhioiaa
set_option maxRecDepth 100000
open Go.RowKit

def BkRel (w : World) (xs : List Int) (n : Nat) (v5 v6 : Value) (wr : World) : Prop :=
  ∃ (j k g1 c1 : Nat) (z : Int), j + k = n ∧ v6 = .int .i64 z ∧ z = (j : Int) - 1 ∧ v5 = .slice (some ⟨g1, 0, none⟩) k c1 ∧ wr.ownsRow w.heap.size 3 1 v5 k (ints (xs.drop j).reverse) ∧ Below w.heap.size w wr

set_option maxHeartbeats 4000000 in
theorem fnBagOf_walk (a : Option Addr) (len cap : Nat) (w : World) (h : By w a len cap) :
    Calls Try.prog 6 #[.slice a len cap] w fun e w' => e = .returned (.bool true) ∧ Below w.heap.size w w' := by
  obtain ⟨i0, hi, hz0, hz1, hz2⟩ := info_parts info_int
  have hlm : len ≤ 9223372036854775807 := by have := h.1; have := h.2.1; unfold maxLen at this; omega
  by_cases hbig : 1048576 < len
  · clear h
    go_enter Try.func6, Try.ntmps6
    go_wp2_with fail
    go_ret
    exact ⟨rfl, Below.refl _ _⟩
  have k0 := Lib.hid (drawBagOf_any a len cap w h)
  clear h
  go_enter Try.func6, Try.ntmps6
  go_wp2_with fail
  refine (k0.out).mono ?_
  rintro ee w1 ⟨xs, g, n, c, hn, rfl, ho, hl, hb0⟩
  have Hn := Lib.hid hn
  clear hn
  have X_0 := Lib.hid (Sl.of_own ho)
  have Ht0 := Lib.hid hb0
  have hws := hb0.size
  clear ho hb0
  have hrl := bagOf_len xs
  have hrv := bagOf_rev xs
  have htw := bagOf_twice xs
  have hvl := bagOf_bag xs
  obtain ⟨r, hr⟩ : ∃ r, r = bagOf xs := ⟨_, rfl⟩
  rw [← hr] at hrl hrv htw hvl
  have Hr := Lib.hid hr.symm
  have Hrv := Lib.hid hrv
  have Htw := Lib.hid htw
  have Hvl := Lib.hid hvl
  clear hr hrv htw hvl
  have k1 := Lib.hid (impl_BagOf (some ⟨g, 0, none⟩) n c xs w1 X_0.out)
  unfold IntPost at k1
  rw [Hr.out] at k1
  go_wp2_with fail
  refine (k1.out).mono ?_
  rintro ee w101 ⟨aB, cB, rfl, ho, hb1⟩
  have Ht1 := Lib.hid (Ht0.out.trans (hb1.mono (by have h1 := Ht0.out.size; omega)))
  have X_1 := Lib.hid (X_0.out.below hb1)
  have B_1 := Lib.hid (Sl.of_own ho)
  clear hb1 ho
  have k2 := Lib.hid (spec_BagOf (some ⟨g, 0, none⟩) n c xs w101 X_1.out)
  unfold BagPost at k2
  rw [Hr.out] at k2
  go_wp2_with fail
  refine (k2.out).mono ?_
  rintro ee w102 ⟨gQ, cQ, rfl, ho, hb2⟩
  have Ht2 := Lib.hid (Ht1.out.trans (hb2.mono (by have h1 := Ht1.out.size; omega)))
  have X_2 := Lib.hid (X_1.out.below hb2)
  have B_2 := Lib.hid (B_1.out.below hb2)
  have Q_2 := Lib.hid (Sl.of_own ho)
  clear hb2 ho
  have k3 := Lib.hid (sameInts_any aB (some ⟨gQ, 0, none⟩) r.length cB r.length cQ r r w102 (by omega) B_2.out Q_2.out)
  rw [eqB_refl] at k3
  go_wp2_with fail
  refine (k3.out).mono ?_
  rintro ee w103 ⟨rfl, hb3⟩
  have Ht3 := Lib.hid (Ht2.out.trans (hb3.mono (by have h1 := Ht2.out.size; omega)))
  have X_3 := Lib.hid (X_2.out.below hb3)
  have B_3 := Lib.hid (B_2.out.below hb3)
  clear hb3
  obtain ⟨W, hW⟩ : ∃ W, W = w103.alloc (.cells #[] 3) := ⟨_, rfl⟩
  have hbW : Below w103.heap.size w103 W := by rw [hW]; exact (Below.refl _ _).alloc (Nat.le_refl _) _
  have hoW : W.ownsRow w103.heap.size 3 1 (.slice (some ⟨w103.heap.size, 0, none⟩) 0 0) 0 (ints []) := by rw [hW]; exact World.ownsRow_lit w103 #[] 0 (Nat.le_refl _) (by simp [maxLen]) rfl
  have Hst := Lib.hid (show BkRel w103 xs n (.slice (some ⟨w103.heap.size, 0, none⟩) 0 0) (.int .i64 ((n : Int) - 1)) W from
    ⟨n, 0, _, 0, _, rfl, rfl, rfl, rfl, by rw [List.drop_of_length_le (by have := Hn.out; omega)]; exact hoW, hbW⟩)
  have HWe := Lib.hid hW.symm
  clear hW hbW hoW
  go_wp2_with fail
  rw [HWe.out]
  go_loopw [5, 6] (fun v5 v6 wr => BkRel w103 xs n v5 v6 wr) (fun _ v6 _ => (intOf v6 + 1).toNat)
  case atStart => exact Hst.out
  case round =>
    obtain ⟨j, k, g1, c1, z, hjk, rfl, hz, rfl, ho, hb⟩ := hrel
    obtain ⟨wA, rfl⟩ : ∃ wA : World, wA = wr := ⟨_, rfl⟩
    have hws : w103.heap.size ≤ wA.heap.size := hb.size
    by_cases hj : 0 < j
    · obtain ⟨j1, rfl⟩ : ∃ j1, j = j1 + 1 := ⟨j - 1, by omega⟩
      obtain rfl : z = (j1 : Int) := by omega
      have hz0' : (0 : Int) ≤ (j1 : Int) := by omega
      obtain ⟨b, off, he, hat⟩ := X_3.out.2.2.2 (by omega)
      obtain ⟨rfl, rfl⟩ : b = g ∧ off = 0 := by simp at he; omega
      obtain ⟨x, t, hdx, hdx1⟩ := drop_cons (xs := xs) (a := j1) (by have := Hn.out; omega)
      have hbl := hat.lt (by intro h9; rw [h9] at hdx; simp at hdx)
      have y0 := (hat.below hb hbl).get hdx
      rw [Nat.zero_add] at y0
      have Hdr := Lib.hid (show (xs.drop j1).reverse = (xs.drop (j1 + 1)).reverse ++ [x] by rw [hdx, List.reverse_cons, hdx1])
      have Ho := Lib.hid ho
      have Hb := Lib.hid hb
      obtain ⟨ls, hls⟩ : ∃ ls, ls = (xs.drop (j1 + 1)).reverse := ⟨_, rfl⟩
      rw [← hls] at Ho Hdr
      clear ho hb hat hdx hdx1 he hls hz
      go_wp2_with (first
        | (at_builtin; go_loud (refine wpList_append_own _ rfl (.tmp 27) (.tmp 32) 23 rfl w103.heap.size 3 i0 (.int .i64 0) 1 8 Try.underlying23 hi hz0 hz1 hz2 rfl (by decide) _ k (ints ls) (by rfl) (Ho.out.alloc _) ⟨wA.heap.size, 0, none⟩ 1 1 [.int .i64 x] (by rfl) (by rfl) (cell_one_new _ _ _) (ints_oneCell _ [_]) (by unfold maxLen; omega) (by omega) (by simp; omega) ?_; intro v2' w5 ho5 hg5 _; obtain ⟨g6, c6, rfl⟩ := Joins.ownsRow_form ho5 (by omega))))
      have hfin : BkRel w103 xs n (.slice (some ⟨g6, 0, none⟩) (k + 1) c6) (.int .i64 ((j1 : Int) - 1)) w5 :=
        ⟨j1, k + 1, g6, c6, _, by omega, rfl, rfl, rfl, by rw [Hdr.out]; simpa [ints] using ho5, (Hb.out.alloc hws _).grown hg5 (by simp; omega) (fun r e => (Ho.out.lt r e).1)⟩
      have Hfin := Lib.hid hfin
      clear hfin ho5 hg5
      go_wp2_with fail
      go_roundw
      case rel => exact Hfin.out
      case measure => simp [intOf] <;> omega
    · obtain rfl : j = 0 := by omega
      have hzn : ¬ (0 ≤ z) := by omega
      obtain rfl : k = n := by omega
      have R_4 := Lib.hid (Sl.of_own ho)
      rw [List.drop_zero] at R_4
      have Ht4 := Lib.hid (Ht3.out.trans (hb.mono (by have h1 := Ht3.out.size; omega)))
      have B_4 := Lib.hid (B_3.out.below hb)
      clear ho hb
      have k5 := Lib.hid (impl_BagValid aB r.length cB r wA B_4.out)
      rw [Hvl.out] at k5
      go_wp2_with fail
      refine (k5.out).mono ?_
      rintro ee w105 ⟨rfl, hb5⟩
      have Ht5 := Lib.hid (Ht4.out.trans (hb5.mono (by have h1 := Ht4.out.size; omega)))
      have B_5 := Lib.hid (B_4.out.below hb5)
      have R_5 := Lib.hid (R_4.out.below hb5)
      clear hb5
      have k6 := Lib.hid (impl_BagOf (some ⟨g1, 0, none⟩) k c1 xs.reverse w105 R_5.out)
      unfold IntPost at k6
      rw [Hrv.out] at k6
      go_wp2_with fail
      refine (k6.out).mono ?_
      rintro ee w106 ⟨aC, cC, rfl, ho, hb6⟩
      have Ht6 := Lib.hid (Ht5.out.trans (hb6.mono (by have h1 := Ht5.out.size; omega)))
      have B_6 := Lib.hid (B_5.out.below hb6)
      have C_6 := Lib.hid (Sl.of_own ho)
      clear hb6 ho
      have k7 := Lib.hid (sameInts_any aC aB r.length cC r.length cB r r w106 (by omega) C_6.out B_6.out)
      rw [eqB_refl] at k7
      go_wp2_with fail
      refine (k7.out).mono ?_
      rintro ee w107 ⟨rfl, hb7⟩
      have Ht7 := Lib.hid (Ht6.out.trans (hb7.mono (by have h1 := Ht6.out.size; omega)))
      have B_7 := Lib.hid (B_6.out.below hb7)
      clear hb7
      have k8 := Lib.hid (impl_BagOf aB r.length cB r w107 B_7.out)
      unfold IntPost at k8
      rw [Htw.out] at k8
      go_wp2_with fail
      refine (k8.out).mono ?_
      rintro ee w108 ⟨aD, cD, rfl, ho, hb8⟩
      have Ht8 := Lib.hid (Ht7.out.trans (hb8.mono (by have h1 := Ht7.out.size; omega)))
      have B_8 := Lib.hid (B_7.out.below hb8)
      have D_8 := Lib.hid (Sl.of_own ho)
      clear hb8 ho
      have k9 := Lib.hid (sameInts_any aD aB r.length cD r.length cB r r w108 (by omega) D_8.out B_8.out)
      rw [eqB_refl] at k9
      go_wp2_with fail
      refine (k9.out).mono ?_
      rintro ee w109 ⟨rfl, hb9⟩
      have Ht9 := Lib.hid (Ht8.out.trans (hb9.mono (by have h1 := Ht8.out.size; omega)))
      clear hb9
      have k10 := Lib.hid (alive_any w109)
      go_wp2_with fail
      refine (k10.out).mono ?_
      rintro ee w110 ⟨rfl, hb10⟩
      have Ht10 := Lib.hid (Ht9.out.trans (hb10.mono (by have h1 := Ht9.out.size; omega)))
      clear hb10
      go_wp2_with fail
      go_ret
      exact ⟨rfl, Ht10.out⟩

end Go.Proofs.Ytgkcpmhgmhioiaa
