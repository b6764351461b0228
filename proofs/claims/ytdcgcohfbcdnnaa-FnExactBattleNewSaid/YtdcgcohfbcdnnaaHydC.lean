/- HydraCut of the program. -/
import Derived.Test.YtdcgcohfbcdnnaaTreeC
import Derived.Test.YtdcgcohfbcdnnaaHydV
import Derived.Test.YtdcgcohfbcdnnaaPost
namespace Go.Proofs.Ytdcgcohfbcdnnaa
set_option maxRecDepth 100000
open Go.RowKit

theorem isCopies_any (n : Int) (w : World) : Calls Try.prog 51 #[.int .i64 n] w fun e w' => e = .returned (.bool (decide (1 ≤ n ∧ n ≤ 9))) ∧ w = w' := by
  by_cases h1 : 1 ≤ n
  · by_cases h2 : n ≤ 9
    · rw [decide_eq_true ⟨h1, h2⟩]
      go_enter Try.func51, Try.ntmps51
      go_wp2_with fail
      go_ret
      exact ⟨rfl, rfl⟩
    · rw [decide_eq_false (fun h => h2 h.2)]
      go_enter Try.func51, Try.ntmps51
      go_wp2_with fail
      go_ret
      exact ⟨rfl, rfl⟩
  · rw [decide_eq_false (fun h => h1 h.1)]
    go_enter Try.func51, Try.ntmps51
    go_wp2_with fail
    go_ret
    exact ⟨rfl, rfl⟩

theorem Apart.below_of {p m : Nat} {w w1 w2 : World} (h : Apart p m w1 w2) (hb : Below w.heap.size w w1) (hp : w.heap.size ≤ p) : Below w.heap.size w w2 :=
  ⟨h.os.trans hb.os, h.tape.trans hb.tape, h.output.trans hb.output, Nat.le_trans hb.size h.size, fun k hk => (h.block k (Nat.lt_of_lt_of_le hk hb.size) (by omega)).trans (hb.block k hk)⟩

set_option maxHeartbeats 4000000 in
theorem impl_HydraCut (ao : Option Addr) (len cap : Nat) (xs : List Int) (h n : Int) (w : World) (hs : Sl w ao len cap xs) :
    Calls Try.prog 14 #[.slice ao len cap, .int .i64 h, .int .i64 n] w (OrdOkPost w (H.cutRow xs h n) (H.cutOkB xs h n)) := by
  have k1 := Lib.hid (isCopies_any n w)
  have k2 := Lib.hid (impl_HydraHeads ao len cap xs w hs)
  have hno : ∀ w' : World, OrdOkPost w [] false (.returned (.tuple #[.slice none 0 0, .bool false])) w := fun _ => OrdOkPost.nil (nil_own _ _) (Below.refl _ _)
  by_cases hn : 1 ≤ n ∧ n ≤ 9
  · rw [decide_eq_true hn] at k1
    by_cases hh : h < 0
    · have hb : H.cutOkB xs h n = false := H.cut_bad (fun h' => by omega)
      rw [H.cut_no hb, hb]
      clear hs hno hb
      go_enter Try.func14, Try.ntmps14
      go_wp2_with fail
      refine (k1.out).mono ?_
      rintro ee w' ⟨rfl, rfl⟩
      go_wp2_with fail
      go_ret2
      exact OrdOkPost.nil (nil_own _ _) (Below.refl _ _)
    · obtain ⟨q, hq⟩ : ∃ q, q = H.headsRow xs := ⟨_, rfl⟩
      rw [← hq] at k2
      by_cases hhq : h < q
      · obtain ⟨hN, rfl⟩ := Int.eq_ofNat_of_zero_le (show 0 ≤ h by omega)
        obtain ⟨nn, rfl⟩ := Int.eq_ofNat_of_zero_le (show 0 ≤ n by omega)
        have hv : H.hvB xs = true := by
          cases hv : H.hvB xs with
          | true => rfl
          | false =>
            rw [H.headsRow, if_neg (by rw [hv]; simp)] at hq
            omega
        obtain ⟨f, he, h60, hof⟩ := H.hv_of hv
        have hhb : H.headsRow xs ≤ 60 := by
          rw [H.headsRow, if_pos hv]
          have h3 := H.noughts_le (xs.drop 1)
          rw [List.length_drop] at h3
          have h4 : xs.length ≤ 60 := by rw [he]; exact h60
          omega
        subst he
        have hfl := H.enc_len f
        have hob : H.cutOkB f.enc hN nn = decide ((H.cut nn f hN).1.enc.length ≤ 60) := by
          rw [H.cutOkB, hv, ← hq, hof, decide_eq_true (show 1 ≤ ((nn : Nat) : Int) ∧ ((nn : Nat) : Int) ≤ 9 ∧ 0 ≤ ((hN : Nat) : Int) ∧ ((hN : Nat) : Int) < q from ⟨by omega, by omega, by omega, hhq⟩)]
          rfl
        have hrow : H.cutRow f.enc hN nn = if decide ((H.cut nn f hN).1.enc.length ≤ 60) = true then (H.cut nn f hN).1.enc else [] := by
          rw [H.cutRow, hob, hof]; rfl
        rw [hob, hrow]
        have hcl := (H.cut_len nn (by omega) f hN).1
        obtain ⟨R, hR⟩ : ∃ R, R = (H.cut nn f hN).1 := ⟨_, rfl⟩
        have hRl : R.enc.length ≤ 10000 := by
          rw [hR, H.enc_len]
          have : nn * f.body.length ≤ 9 * f.body.length := Nat.mul_le_mul_right _ (by omega)
          omega
        have k3 := Lib.hid (treeOf_any ao len cap f w hs (by rw [← hs.1]; exact h60))
        have K4 := Lib.hid (fun w1 (hn : Nd w1 f w.heap.size w1.heap.size) => node_cut nn (by omega) (by omega) (f.body.length + 1) f w.heap.size w1.heap.size hN w1 (by omega) (by omega) (by omega) hn)
        have K5 := Lib.hid (fun w2 (hn : RNd w2 R w.heap.size) => node_row (R.body.length + 1) R w.heap.size w2 (by omega) hRl hn)
        unfold CutPost at K4
        unfold RowPost at K5
        rw [← hR] at K4 ⊢
        have hlt' : ¬ ((q : Int) ≤ (hN : Int)) := by omega
        have Hq := Lib.hid hq
        clear hs hv h60 hof hq hob hrow hR hfl hcl hhb hno
        have hfin : ∀ a5 c5 w1 w2 w5, Below w.heap.size w w1 → Apart w.heap.size w1.heap.size w1 w2 → w5.ownsRow w2.heap.size 3 1 (.slice a5 R.enc.length c5) R.enc.length (ints R.enc) → Below w2.heap.size w2 w5 →
            OrdOkPost w R.enc true (.returned (.tuple #[.slice a5 R.enc.length c5, .bool true])) w5 ∧ Below w.heap.size w w5 := by
          intro a5 c5 w1 w2 w5 hb hA ho hb5
          have hb2 := hA.below_of hb (Nat.le_refl _)
          have hb6 := hb2.trans (hb5.mono hb2.size)
          exact ⟨⟨a5, c5, rfl, Joins.ownsRow_le ho hb2.size, hb6⟩, hb6⟩
        have Hfin := Lib.hid hfin
        clear hfin
        by_cases hl6 : R.enc.length ≤ 60
        · rw [decide_eq_true hl6, if_pos rfl]
          obtain ⟨L, hL⟩ : ∃ L, L = R.enc.length := ⟨_, rfl⟩
          rw [← hL] at K5 hl6 hRl
          have HL := Lib.hid hL
          clear hL
          go_enter Try.func14, Try.ntmps14
          go_wp2_with fail
          refine (k1.out).mono ?_
          rintro ee w' ⟨rfl, rfl⟩
          go_wp2_with fail
          refine (k2.out).mono ?_
          rintro ee w' ⟨rfl, rfl⟩
          go_wp2_with fail
          refine (k3.out).mono ?_
          rintro ee w1 ⟨rfl, hnd, hb⟩
          have k4 := Lib.hid (K4.out w1 hnd)
          have Hb := Lib.hid hb
          clear hnd hb
          go_wp2_with fail
          refine (k4.out).mono ?_
          rintro ee w2 ⟨rfl, hrs, hA⟩
          have k5 := Lib.hid (K5.out w2 hrs.rnd)
          have HA := Lib.hid hA
          clear hrs hA
          go_wp2_with fail
          refine (k5.out).mono ?_
          rintro ee w5 ⟨a5, c5, rfl, ho5, hb5⟩
          have Hf := Lib.hid (Hfin.out a5 c5 w1 w2 w5 Hb.out HA.out (by rw [← HL.out]; exact ho5) hb5).1
          clear ho5 hb5
          rw [← HL.out] at Hf
          go_wp2_with fail
          go_ret2
          exact Hf.out
        · rw [decide_eq_false hl6, if_neg (by simp)]
          obtain ⟨L, hL⟩ : ∃ L, L = R.enc.length := ⟨_, rfl⟩
          rw [← hL] at K5 hl6 hRl
          have HL := Lib.hid hL
          clear hL
          go_enter Try.func14, Try.ntmps14
          go_wp2_with fail
          refine (k1.out).mono ?_
          rintro ee w' ⟨rfl, rfl⟩
          go_wp2_with fail
          refine (k2.out).mono ?_
          rintro ee w' ⟨rfl, rfl⟩
          go_wp2_with fail
          refine (k3.out).mono ?_
          rintro ee w1 ⟨rfl, hnd, hb⟩
          have k4 := Lib.hid (K4.out w1 hnd)
          have Hb := Lib.hid hb
          clear hnd hb
          go_wp2_with fail
          refine (k4.out).mono ?_
          rintro ee w2 ⟨rfl, hrs, hA⟩
          have k5 := Lib.hid (K5.out w2 hrs.rnd)
          have HA := Lib.hid hA
          clear hrs hA
          go_wp2_with fail
          refine (k5.out).mono ?_
          rintro ee w5 ⟨a5, c5, rfl, ho5, hb5⟩
          have Hf := Lib.hid (Hfin.out a5 c5 w1 w2 w5 Hb.out HA.out (by rw [← HL.out]; exact ho5) hb5).2
          clear ho5 hb5
          go_wp2_with fail
          go_ret2
          exact OrdOkPost.nil (nil_own _ _) Hf.out
      · have hb : H.cutOkB xs h n = false := H.cut_bad (fun h' => by omega)
        rw [H.cut_no hb, hb]
        clear hs hno hb hq
        go_enter Try.func14, Try.ntmps14
        go_wp2_with fail
        refine (k1.out).mono ?_
        rintro ee w' ⟨rfl, rfl⟩
        go_wp2_with fail
        refine (k2.out).mono ?_
        rintro ee w' ⟨rfl, rfl⟩
        go_wp2_with fail
        go_ret2
        exact OrdOkPost.nil (nil_own _ _) (Below.refl _ _)
  · have hb : H.cutOkB xs h n = false := H.cut_bad (fun h' => hn ⟨h'.2.1, h'.2.2.1⟩)
    rw [H.cut_no hb, hb]
    rw [decide_eq_false hn] at k1
    clear hs hno hb
    go_enter Try.func14, Try.ntmps14
    go_wp2_with fail
    refine (k1.out).mono ?_
    rintro ee w' ⟨rfl, rfl⟩
    go_wp2_with fail
    go_ret2
    exact OrdOkPost.nil (nil_own _ _) (Below.refl _ _)

end Go.Proofs.Ytdcgcohfbcdnnaa
