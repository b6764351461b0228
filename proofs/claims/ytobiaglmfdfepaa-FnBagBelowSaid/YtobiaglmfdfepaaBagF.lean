/- Multisets: whether one is below another one, by the model. -/
import Derived.Test.YtobiaglmfdfepaaBagE
namespace Go.Proofs.Ytobiaglmfdfepaa
set_option maxRecDepth 100000
open Go.RowKit

theorem cmpC_neg (xs ys : List Int) : ∀ K : Nat, cmpC xs ys K = -1 ↔ ∃ k, k < K ∧ xs.count (k : Int) < ys.count (k : Int) ∧ ∀ j : Nat, k < j → j < K → xs.count (j : Int) = ys.count (j : Int)
  | 0 => by simp [cmpC]
  | K + 1 => by
    rw [cmpC]
    by_cases h1 : xs.count (K : Int) < ys.count (K : Int)
    · rw [if_pos h1]
      exact ⟨fun _ => ⟨K, by omega, h1, fun j h2 h3 => by omega⟩, fun _ => rfl⟩
    · rw [if_neg h1]
      by_cases h2 : ys.count (K : Int) < xs.count (K : Int)
      · rw [if_pos h2]
        constructor
        · intro h; omega
        · rintro ⟨k, h3, h4, h5⟩
          by_cases hk : k = K
          · subst hk; omega
          · have := h5 K (by omega) (by omega); omega
      · rw [if_neg h2, cmpC_neg xs ys K]
        constructor
        · rintro ⟨k, h3, h4, h5⟩
          refine ⟨k, by omega, h4, fun j h6 h7 => ?_⟩
          by_cases hj : j = K
          · subst hj; omega
          · exact h5 j h6 (by omega)
        · rintro ⟨k, h3, h4, h5⟩
          by_cases hk : k = K
          · subst hk; omega
          · exact ⟨k, by omega, h4, fun j h6 h7 => h5 j h6 (by omega)⟩
theorem cmpC_same (xs ys : List Int) : ∀ K : Nat, cmpC xs ys K = 1 → ∃ k, k < K ∧ ys.count (k : Int) < xs.count (k : Int) ∧ ∀ j : Nat, k < j → j < K → xs.count (j : Int) = ys.count (j : Int)
  | 0, h => by simp [cmpC] at h
  | K + 1, h => by
    rw [cmpC] at h
    by_cases h1 : xs.count (K : Int) < ys.count (K : Int)
    · rw [if_pos h1] at h; omega
    · rw [if_neg h1] at h
      by_cases h2 : ys.count (K : Int) < xs.count (K : Int)
      · exact ⟨K, by omega, h2, fun j h3 h4 => by omega⟩
      · rw [if_neg h2] at h
        obtain ⟨k, h3, h4, h5⟩ := cmpC_same xs ys K h
        refine ⟨k, by omega, h4, fun j h6 h7 => ?_⟩
        by_cases hj : j = K
        · subst hj; omega
        · exact h5 j h6 (by omega)

/-- For what the first one has more of, the second one has more of a greater one. -/
def BelOk (xs ys : List Int) (j : Nat) : Prop := xs.count (j : Int) ≤ ys.count (j : Int) ∨ ∃ q : Nat, j < q ∧ q < 10 ∧ xs.count (q : Int) < ys.count (q : Int)
theorem bel_all {xs ys : List Int} (h0 : cmpC xs ys 10 ≠ 0) (h : ∀ j, j < 10 → BelOk xs ys j) : cmpC xs ys 10 = -1 := by
  have hv : ∀ K : Nat, cmpC xs ys K = -1 ∨ cmpC xs ys K = 0 ∨ cmpC xs ys K = 1 := by
    intro K
    induction K with
    | zero => simp [cmpC]
    | succ K ih =>
      rw [cmpC]
      split
      · simp
      · split
        · simp
        · exact ih
  rcases hv 10 with h1 | h1 | h1
  · exact h1
  · exact absurd h1 h0
  · obtain ⟨k, h2, h3, h4⟩ := cmpC_same xs ys 10 h1
    rcases h k h2 with h5 | ⟨q, h5, h6, h7⟩
    · omega
    · have := h4 q h5 h6; omega
theorem bel_not {xs ys : List Int} {j : Nat} (hj : j < 10) (h : ¬ BelOk xs ys j) : cmpC xs ys 10 ≠ -1 := by
  intro h1
  obtain ⟨k, h2, h3, h4⟩ := (cmpC_neg xs ys 10).1 h1
  apply h
  by_cases hjk : j < k
  · exact .inr ⟨k, hjk, h2, h3⟩
  · left
    by_cases he : j = k
    · subst he; omega
    · have := h4 j (by omega) hj; omega

set_option maxHeartbeats 8000000 in
theorem spec_BagBelow (a1 a2 : Option Addr) (n1 c1 n2 c2 : Nat) (xs ys : List Int) (w : World) (hx : Sl w a1 n1 c1 xs) (hy : Sl w a2 n2 c2 ys) :
    Calls Try.prog 28 #[.slice a1 n1 c1, .slice a2 n2 c2] w fun e w' => e = .returned (.bool (bagBel xs ys)) ∧ Below w.heap.size w w' := by
  have k1 := Lib.hid (spec_BagCompare a1 a2 n1 c1 n2 c2 xs ys w hx hy)
  have k2 := Lib.hid (fun wx hb => spec_BagCompare a1 a2 n1 c1 n2 c2 xs ys wx (hx.below (w := w) hb) (hy.below hb))
  have hcase : bagCmp xs ys = -2 ∨ (bagB xs = true ∧ bagB ys = true) := by
    rcases bag_tf xs with h1 | h1
    · rcases bag_tf ys with h2 | h2
      · exact .inr ⟨h1, h2⟩
      · exact .inl (bagCmp_2 h2)
    · exact .inl (bagCmp_1 h1)
  obtain ⟨o, ho⟩ : ∃ o, o = bagBel xs ys := ⟨_, rfl⟩
  rw [← ho]
  rcases hcase with h | ⟨hb1, hb2⟩
  · obtain rfl : o = false := by rw [ho, bagBel, h]; rfl
    rw [h] at k1
    clear hx hy h k2 ho
    go_enter Try.func28, Try.ntmps28
    go_wp2_with fail
    refine (k1.out).mono ?_
    rintro ee w1 ⟨rfl, hb1⟩
    have Hb1 := Lib.hid hb1
    clear hb1
    go_wp2_with fail
    go_ret
    exact ⟨rfl, Hb1.out⟩
  · have hl1 := (itemsB_true.1 (bagB_true.1 hb1).1).1
    have hl2 := (itemsB_true.1 (bagB_true.1 hb2).1).1
    rw [hx.1] at hl1
    rw [hy.1] at hl2
    have hce : bagCmp xs ys = cmpC xs ys 10 := by rw [bagCmp_in hb1 hb2, cmpL_cmpC hb1 hb2]
    have hvals := cmpL_vals xs ys
    rw [cmpL_cmpC hb1 hb2] at hvals
    have hob : o = decide (cmpC xs ys 10 = -1) := by rw [ho, bagBel, hce]
    obtain ⟨z, hz⟩ : ∃ z, z = cmpC xs ys 10 := ⟨_, rfl⟩
    rw [hce, ← hz] at k1 k2
    have km := Lib.hid (fun (m : Int) wx hb => l6Many_any a1 n1 c1 xs m wx (by omega) (hx.below (w := w) hb))
    have km2 := Lib.hid (fun (m : Int) wx hb => l6Many_any a2 n2 c2 ys m wx (by omega) (hy.below (w := w) hb))
    have hcb : ∀ m : Int, xs.count m ≤ 16 ∧ ys.count m ≤ 16 := fun m => ⟨by have := List.count_le_length (a := m) (l := xs); rw [hx.1] at this; omega, by have := List.count_le_length (a := m) (l := ys); rw [hy.1] at this; omega⟩
    have Hcb := Lib.hid hcb
    have Hz := Lib.hid hz
    have Hob := Lib.hid hob
    rw [← hz] at hvals
    have hn2 : (z == -2) = false := by simp; omega
    clear hx hy hb1 hb2 hce ho hob hcb hz
    by_cases hz0 : z = 0
    · have hzz : (z == 0) = true := by simp [hz0]
      obtain rfl : o = false := by rw [Hob.out, ← Hz.out, hz0]; rfl
      clear hz0 hvals
      go_enter Try.func28, Try.ntmps28
      go_wp2_with fail
      refine (k1.out).mono ?_
      rintro ee w1 ⟨rfl, hb1⟩
      have k3 := Lib.hid (k2.out w1 hb1)
      have Hb1 := Lib.hid hb1
      clear hb1
      go_wp2_with fail
      refine (k3.out).mono ?_
      rintro ee w2 ⟨rfl, hb2⟩
      have Hb2 := Lib.hid (Hb1.out.trans (hb2.mono Hb1.out.size))
      clear hb2
      go_wp2_with fail
      go_ret
      exact ⟨rfl, Hb2.out⟩
    · have hzz : (z == 0) = false := by simp [hz0]
      have Hz0 := Lib.hid (show cmpC xs ys 10 ≠ 0 by rw [← Hz.out]; exact hz0)
      clear hz0 hvals
      go_enter Try.func28, Try.ntmps28
      go_wp2_with fail
      refine (k1.out).mono ?_
      rintro ee w1 ⟨rfl, hb1⟩
      have k3 := Lib.hid (k2.out w1 hb1)
      have Hb1 := Lib.hid hb1
      clear hb1
      go_wp2_with fail
      refine (k3.out).mono ?_
      rintro ee w2 ⟨rfl, hb2⟩
      have Hb2 := Lib.hid (Hb1.out.trans (hb2.mono Hb1.out.size))
      clear hb2
      go_wp2_with fail
      go_loopw [5, 6, 7] (fun v5 _ _ wr => ∃ (j : Nat), j ≤ 10 ∧ v5 = .int .i64 j ∧ Hid (∀ i, i < j → BelOk xs ys i) ∧ w2 = wr) (fun v5 _ _ _ => 10 - (intOf v5).toNat)
      case atStart => exact ⟨0, by omega, rfl, Lib.hid (fun i hi => by omega), rfl⟩
      case round =>
        obtain ⟨j, hj, rfl, HE, rfl⟩ := hrel
        by_cases hlt : j < 10
        · have hle : (j : Int) ≤ 9 := by omega
          have kp := Lib.hid (km.out j w2 Hb2.out)
          have kq := Lib.hid (km2.out j w2 Hb2.out)
          have hpb := (Hcb.out j).1
          have hqb := (Hcb.out j).2
          obtain ⟨p, hp⟩ : ∃ p, p = xs.count (j : Int) := ⟨_, rfl⟩
          obtain ⟨q, hq⟩ : ∃ q, q = ys.count (j : Int) := ⟨_, rfl⟩
          rw [← hp] at kp hpb
          rw [← hq] at kq hqb
          have Hp := Lib.hid hp
          have Hq := Lib.hid hq
          clear hp hq
          go_wp2_with fail
          refine (kp.out).mono ?_
          rintro ee wx ⟨rfl, rfl⟩
          go_wp2_with fail
          refine (kq.out).mono ?_
          rintro ee wx ⟨rfl, rfl⟩
          by_cases hpq : p ≤ q
          · have HN := Lib.hid (show ∀ i, i < j + 1 → BelOk xs ys i from fun i hi => by
              by_cases hij : i = j
              · subst hij; exact .inl (by rw [← Hp.out, ← Hq.out]; exact hpq)
              · exact HE.out i (by omega))
            go_wp2_with fail
            go_roundw
            case rel => exact ⟨j + 1, by omega, by go_num, HN, by trivial⟩
            case measure => simp [intOf] <;> omega
          · have hpq' : decide ((p : Int) ≤ (q : Int)) = false := by simp; omega
            go_wp2_with fail
            go_loopw [6, 7] (fun v6 v7 wr => ∃ (m : Nat) (l : Bool), j < m ∧ m ≤ 10 ∧ v7 = .int .i64 m ∧ v6 = .bool l ∧ Hid (l = true ↔ ∃ i, j < i ∧ i < m ∧ xs.count (i : Int) < ys.count (i : Int)) ∧ w2 = wr) (fun _ v7 _ => 10 - (intOf v7).toNat)
            case atStart => exact ⟨j + 1, false, by omega, by omega, rfl, rfl, Lib.hid ⟨fun h => (by cases h), fun ⟨i, h1, h2, _⟩ => by omega⟩, rfl⟩
            case round =>
              obtain ⟨m, l, hjm, hm, rfl, rfl, HL, rfl⟩ := hrel
              by_cases hltm : m < 10
              · have hlem : (m : Int) ≤ 9 := by omega
                have kp := Lib.hid (km.out m w2 Hb2.out)
                have kq := Lib.hid (km2.out m w2 Hb2.out)
                have hpb := (Hcb.out m).1
                have hqb := (Hcb.out m).2
                obtain ⟨s, hs⟩ : ∃ p, p = xs.count (m : Int) := ⟨_, rfl⟩
                obtain ⟨t, ht⟩ : ∃ q, q = ys.count (m : Int) := ⟨_, rfl⟩
                rw [← hs] at kp hpb
                rw [← ht] at kq hqb
                have hfin : ∀ l2 : Bool, (l2 = true ↔ l = true ∨ s < t) → (l2 = true ↔ ∃ i, j < i ∧ i < m + 1 ∧ xs.count (i : Int) < ys.count (i : Int)) := by
                  intro l2 h2
                  rw [h2, HL.out, hs, ht]
                  constructor
                  · rintro (⟨i, h3, h4, h5⟩ | h3)
                    · exact ⟨i, h3, by omega, h5⟩
                    · exact ⟨m, hjm, by omega, h3⟩
                  · rintro ⟨i, h3, h4, h5⟩
                    by_cases him : i = m
                    · subst him; exact .inr h5
                    · exact .inl ⟨i, h3, by omega, h5⟩
                have Hfin := Lib.hid hfin
                clear hs ht hfin
                cases l with
                | true =>
                  have HF := Lib.hid (Hfin.out true (by simp))
                  go_wp2_with fail
                  go_roundw
                  case rel => exact ⟨m + 1, true, by omega, by omega, by go_num, rfl, HF, by trivial⟩
                  case measure => simp [intOf] <;> omega
                | false =>
                  by_cases hst : s < t
                  · have HF := Lib.hid (Hfin.out true (by simp [hst]))
                    go_wp2_with fail
                    refine (kq.out).mono ?_
                    rintro ee wx ⟨rfl, rfl⟩
                    go_wp2_with fail
                    refine (kp.out).mono ?_
                    rintro ee wx ⟨rfl, rfl⟩
                    go_wp2_with fail
                    go_roundw
                    case rel => exact ⟨m + 1, true, by omega, by omega, by go_num, rfl, Lib.hid ⟨fun _ => HF.out.1 trivial, fun _ => rfl⟩, by trivial⟩
                    case measure => simp [intOf] <;> omega
                  · have HF := Lib.hid (Hfin.out false (by simp [hst]))
                    have hst' : decide ((s : Int) < (t : Int)) = false := by simp; omega
                    go_wp2_with fail
                    refine (kq.out).mono ?_
                    rintro ee wx ⟨rfl, rfl⟩
                    go_wp2_with fail
                    refine (kp.out).mono ?_
                    rintro ee wx ⟨rfl, rfl⟩
                    go_wp2_with fail
                    go_roundw
                    case rel => exact ⟨m + 1, false, by omega, by omega, by go_num, rfl, HF, by trivial⟩
                    case measure => simp [intOf] <;> omega
              · obtain rfl : m = 10 := by omega
                have hml : ¬ ((10 : Nat) : Int) ≤ 9 := by omega
                cases l with
                | true =>
                  have HN := Lib.hid (show ∀ i, i < j + 1 → BelOk xs ys i from fun i hi => by
                    by_cases hij : i = j
                    · subst hij
                      obtain ⟨q2, h1, h2, h3⟩ := HL.out.1 rfl
                      exact .inr ⟨q2, h1, h2, h3⟩
                    · exact HE.out i (by omega))
                  go_wp2_with fail
                  go_roundw
                  case rel => exact ⟨j + 1, by omega, by go_num, HN, by trivial⟩
                  case measure => simp [intOf] <;> omega
                | false =>
                  have hoF : o = false := by
                    rw [Hob.out, decide_eq_false_iff_not]
                    refine bel_not hlt (fun hB => ?_)
                    rcases hB with h1 | ⟨q2, h1, h2, h3⟩
                    · rw [← Hp.out, ← Hq.out] at h1; exact hpq h1
                    · have := HL.out.2 ⟨q2, h1, h2, h3⟩
                      cases this
                  subst hoF
                  go_wp2_with fail
                  go_ret
                  exact ⟨rfl, Hb2.out⟩
        · obtain rfl : j = 10 := by omega
          have hoT : o = true := by rw [Hob.out, decide_eq_true_eq]; exact bel_all Hz0.out HE.out
          have hml : ¬ ((10 : Nat) : Int) ≤ 9 := by omega
          subst hoT
          go_wp2_with fail
          go_ret
          exact ⟨rfl, Hb2.out⟩

end Go.Proofs.Ytobiaglmfdfepaa
