/- FnBagOrd: the walk of the law. -/
import Derived.Test.YtobiaglmfdfepaaDrawBagC
import Derived.Test.YtobiaglmfdfepaaBagPO
import Derived.Test.YtobiaglmfdfepaaBagK
import Derived.Test.YtobiaglmfdfepaaBagPS
import Derived.Test.YtobiaglmfdfepaaPower
namespace Go.Proofs.Ytobiaglmfdfepaa
set_option maxRecDepth 100000
open Go.RowKit

theorem T.cts_zero {xs : List Int} (h : bagB xs = true) : (T.bagOrd xs).length = 1 ↔ xs = [] := by
  constructor
  · intro h1
    cases xs with
    | nil => rfl
    | cons x t =>
      exfalso
      have hx := (upTo_true.1 (itemsB_true.1 (bagB_true.1 h).1).2) x List.mem_cons_self
      obtain ⟨q, rfl⟩ := Int.eq_ofNat_of_zero_le hx.1
      have key : ∀ k, q < k → T.cts ((q : Int) :: t) k ≠ .z := by
        intro k
        induction k with
        | zero => intro h9; omega
        | succ k ih =>
          intro hk
          by_cases hc : ((q : Int) :: t).count (k : Int) = 0
          · rw [T.cts_skip hc]
            refine ih ?_
            rcases Nat.lt_or_ge q k with h9 | h9
            · exact h9
            · obtain rfl : q = k := by omega
              rw [List.count_cons_self] at hc
              omega
          · rw [T.cts_next hc]; exact fun h9 => by cases h9
      have hk := key 10 (by omega)
      rw [T.bagOrd_in h, T.enc_len] at h1
      cases hz : T.cts ((q : Int) :: t) 10 with
      | z => exact hk hz
      | c m e r => rw [hz] at h1; simp [T.body] at h1
  · intro h1
    subst h1
    rw [T.bagOrd_in h]
    simp [T.cts, T.enc, T.body]

set_option maxHeartbeats 4000000 in
theorem fnBagOrd_walk (a : Option Addr) (len cap : Nat) (w : World) (h : By w a len cap) :
    Calls Try.prog 7 #[.slice a len cap] w fun e w' => e = .returned (.bool true) ∧ Below w.heap.size w w' := by
  have hlm : len ≤ 9223372036854775807 := by have := h.1; have := h.2.1; unfold maxLen at this; omega
  by_cases hbig : 1048576 < len
  · clear h
    go_enter Try.func7, Try.ntmps7
    go_wp2_with fail
    go_ret
    exact ⟨rfl, Below.refl _ _⟩
  have k0 := Lib.hid (drawBagOrd_any a len cap w h)
  clear h
  go_enter Try.func7, Try.ntmps7
  go_wp2_with fail
  refine (k0.out).mono ?_
  rintro ee w1 ⟨xs, g, n, c, hn, rfl, ho, hl, hb0⟩
  have Hn := Lib.hid hn
  clear hn
  have X_0 := Lib.hid (Sl.of_own ho)
  have Ht0 := Lib.hid hb0
  have hws := hb0.size
  clear ho hb0
  rcases bag_tf xs with hv | hv
  · have Htop := Lib.hid (T.bagOrd_top hv)
    have Hvld := Lib.hid (T.bagOrd_vld hv)
    have hpos := T.bagOrd_pos hv
    have hrl := T.bagOrd_len xs
    have hz1 := T.cts_zero hv
    obtain ⟨r, hr⟩ : ∃ r, r = T.bagOrd xs := ⟨_, rfl⟩
    rw [← hr] at Htop Hvld hpos hrl hz1
    have Hr := Lib.hid hr.symm
    obtain ⟨tp, htp⟩ : ∃ tp, tp = T.powRow (T.num' ((10 : Nat) : Int)) := ⟨_, rfl⟩
    rw [← htp] at Htop
    have Htp := Lib.hid htp.symm
    have hr0 : ((r.length : Int) == 0) = false := by simp; intro h9; rw [h9] at hpos; simp at hpos
    have hr0' : r.length ≠ 0 := by omega
    have hr1 : ((r.length : Int) == 1) = ((n : Int) == 0) := by
      have h8 : xs = [] ↔ n = 0 := by rw [Hn.out, List.length_eq_zero_iff]
      rw [h8] at hz1
      by_cases h9 : n = 0
      · have := hz1.2 h9; simp [this, h9]
      · have : ¬ r.length = 1 := fun h => h9 (hz1.1 h)
        have e1 : ((r.length : Int) == 1) = false := by simp; omega
        have e2 : ((n : Int) == 0) = false := by simp; omega
        rw [e1, e2]
    clear hv hr htp hz1
    have k6 := Lib.hid (impl_BagOrd (some ⟨g, 0, none⟩) n c xs w1 X_0.out)
    unfold IntPost at k6
    rw [Hr.out] at k6
    go_wp2_with fail
    refine (k6.out).mono ?_
    rintro ee w106 ⟨aO, cO, rfl, ho, hb6⟩
    have Ht6 := Lib.hid (Ht0.out.trans (hb6.mono (by have h1 := Ht0.out.size; omega)))
    have X_6 := Lib.hid (X_0.out.below hb6)
    have O_6 := Lib.hid (Sl.of_own ho)
    clear hb6 ho
    have k7 := Lib.hid (spec_BagOrd (some ⟨g, 0, none⟩) n c xs w106 X_6.out)
    unfold IntPost at k7
    rw [Hr.out] at k7
    go_wp2_with fail
    refine (k7.out).mono ?_
    rintro ee w107 ⟨aQ, cQ, rfl, ho, hb7⟩
    have Ht7 := Lib.hid (Ht6.out.trans (hb7.mono (by have h1 := Ht6.out.size; omega)))
    have X_7 := Lib.hid (X_6.out.below hb7)
    have O_7 := Lib.hid (O_6.out.below hb7)
    have Q_7 := Lib.hid (Sl.of_own ho)
    clear hb7 ho
    have k8 := Lib.hid (sameInts_any aO aQ r.length cO r.length cQ r r w107 (by omega) O_7.out Q_7.out)
    rw [eqB_refl] at k8
    go_wp2_with fail
    refine (k8.out).mono ?_
    rintro ee w108 ⟨rfl, hb8⟩
    have Ht8 := Lib.hid (Ht7.out.trans (hb8.mono (by have h1 := Ht7.out.size; omega)))
    have X_8 := Lib.hid (X_7.out.below hb8)
    have O_8 := Lib.hid (O_7.out.below hb8)
    have Q_8 := Lib.hid (Q_7.out.below hb8)
    clear hb8
    have k9 := Lib.hid (impl_OrdOf (10 : Nat) w108 (by omega) (by omega))
    go_wp2_with fail
    refine (k9.out).mono ?_
    rintro ee w109 ⟨aN, cN, rfl, ho, hb9⟩
    have Ht9 := Lib.hid (Ht8.out.trans (hb9.mono (by have h1 := Ht8.out.size; omega)))
    have X_9 := Lib.hid (X_8.out.below hb9)
    have O_9 := Lib.hid (O_8.out.below hb9)
    have Q_9 := Lib.hid (Q_8.out.below hb9)
    have N_9 := Lib.hid (Sl.of_own ho)
    clear hb9 ho
    have k10 := Lib.hid (impl_OrdPower aN (T.num' ((10 : Nat) : Int)).length cN (T.num' ((10 : Nat) : Int)) w109 N_9.out)
    rw [Htp.out] at k10
    obtain ⟨po, hpo⟩ : ∃ po, po = T.powOk (T.num' ((10 : Nat) : Int)) := ⟨_, rfl⟩
    rw [← hpo] at k10
    clear hpo
    go_wp2_with fail
    refine (k10.out).mono ?_
    rintro ee w110 ⟨aT, cT, rfl, ho, hb10⟩
    have Ht10 := Lib.hid (Ht9.out.trans (hb10.mono (by have h1 := Ht9.out.size; omega)))
    have X_10 := Lib.hid (X_9.out.below hb10)
    have O_10 := Lib.hid (O_9.out.below hb10)
    have Q_10 := Lib.hid (Q_9.out.below hb10)
    have N_10 := Lib.hid (N_9.out.below hb10)
    have T_10 := Lib.hid (Sl.of_own ho)
    clear hb10 ho
    have k11 := Lib.hid (impl_OrdValid aO r.length cO r w110 O_10.out)
    rw [Hvld.out] at k11
    go_wp2_with fail
    refine (k11.out).mono ?_
    rintro ee w111 ⟨rfl, hb11⟩
    have Ht11 := Lib.hid (Ht10.out.trans (hb11.mono (by have h1 := Ht10.out.size; omega)))
    have X_11 := Lib.hid (X_10.out.below hb11)
    have O_11 := Lib.hid (O_10.out.below hb11)
    have Q_11 := Lib.hid (Q_10.out.below hb11)
    have N_11 := Lib.hid (N_10.out.below hb11)
    have T_11 := Lib.hid (T_10.out.below hb11)
    clear hb11
    have k12 := Lib.hid (impl_OrdCompare aO aT r.length cO tp.length cT r tp w111 O_11.out T_11.out)
    rw [Htop.out] at k12
    go_wp2_with fail
    refine (k12.out).mono ?_
    rintro ee w112 ⟨rfl, hb12⟩
    have Ht12 := Lib.hid (Ht11.out.trans (hb12.mono (by have h1 := Ht11.out.size; omega)))
    have X_12 := Lib.hid (X_11.out.below hb12)
    have O_12 := Lib.hid (O_11.out.below hb12)
    have Q_12 := Lib.hid (Q_11.out.below hb12)
    have N_12 := Lib.hid (N_11.out.below hb12)
    have T_12 := Lib.hid (T_11.out.below hb12)
    clear hb12
    obtain ⟨bz, hbz⟩ : ∃ bz, bz = ((n : Int) == 0) := ⟨_, rfl⟩
    rw [← hbz] at hr1
    have hbz2 := hbz.symm
    have hbb : (bz == bz) = true := by cases bz <;> rfl
    clear hbz
    go_wp2_with fail
    go_ret
    exact ⟨rfl, Ht12.out⟩
  · have Hr := Lib.hid (T.bagOrd_out hv)
    have Hv := Lib.hid hv
    clear hv
    have k1 := Lib.hid (impl_BagOrd (some ⟨g, 0, none⟩) n c xs w1 X_0.out)
    unfold IntPost at k1
    rw [Hr.out] at k1
    go_wp2_with fail
    refine (k1.out).mono ?_
    rintro ee w101 ⟨aO, cO, rfl, ho, hb1⟩
    have Ht1 := Lib.hid (Ht0.out.trans (hb1.mono (by have h1 := Ht0.out.size; omega)))
    have X_1 := Lib.hid (X_0.out.below hb1)
    have O_1 := Lib.hid (Sl.of_own ho)
    clear hb1 ho
    have k2 := Lib.hid (spec_BagOrd (some ⟨g, 0, none⟩) n c xs w101 X_1.out)
    unfold IntPost at k2
    rw [Hr.out] at k2
    go_wp2_with fail
    refine (k2.out).mono ?_
    rintro ee w102 ⟨aQ, cQ, rfl, ho, hb2⟩
    have Ht2 := Lib.hid (Ht1.out.trans (hb2.mono (by have h1 := Ht1.out.size; omega)))
    have X_2 := Lib.hid (X_1.out.below hb2)
    have O_2 := Lib.hid (O_1.out.below hb2)
    have Q_2 := Lib.hid (Sl.of_own ho)
    clear hb2 ho
    have k3 := Lib.hid (sameInts_any aO aQ 0 cO 0 cQ [] [] w102 (by omega) O_2.out Q_2.out)
    rw [eqB_refl] at k3
    go_wp2_with fail
    refine (k3.out).mono ?_
    rintro ee w103 ⟨rfl, hb3⟩
    have Ht3 := Lib.hid (Ht2.out.trans (hb3.mono (by have h1 := Ht2.out.size; omega)))
    have X_3 := Lib.hid (X_2.out.below hb3)
    have O_3 := Lib.hid (O_2.out.below hb3)
    have Q_3 := Lib.hid (Q_2.out.below hb3)
    clear hb3
    have k4 := Lib.hid (impl_BagValid (some ⟨g, 0, none⟩) n c xs w103 X_3.out)
    rw [Hv.out] at k4
    go_wp2_with fail
    refine (k4.out).mono ?_
    rintro ee w104 ⟨rfl, hb4⟩
    have Ht4 := Lib.hid (Ht3.out.trans (hb4.mono (by have h1 := Ht3.out.size; omega)))
    have X_4 := Lib.hid (X_3.out.below hb4)
    have O_4 := Lib.hid (O_3.out.below hb4)
    have Q_4 := Lib.hid (Q_3.out.below hb4)
    clear hb4
    have k5 := Lib.hid (alive_any w104)
    go_wp2_with fail
    refine (k5.out).mono ?_
    rintro ee w105 ⟨rfl, hb5⟩
    have Ht5 := Lib.hid (Ht4.out.trans (hb5.mono (by have h1 := Ht4.out.size; omega)))
    have X_5 := Lib.hid (X_4.out.below hb5)
    have O_5 := Lib.hid (O_4.out.below hb5)
    have Q_5 := Lib.hid (Q_4.out.below hb5)
    clear hb5
    go_wp2_with fail
    go_ret
    exact ⟨rfl, Ht5.out⟩

end Go.Proofs.Ytobiaglmfdfepaa
