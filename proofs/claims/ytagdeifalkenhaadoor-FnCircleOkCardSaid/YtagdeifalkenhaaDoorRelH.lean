/- Relations: the points without a rank; WellFounded of program and model. -/
import Derived.Test.YtagdeifalkenhaaDoorRelG
import Derived.Test.YtagdeifalkenhaaDoorRelW
namespace Go.Proofs.YtagdeifalkenhaaDoor
set_option maxRecDepth 100000
open Go.RowKit

/-- The places below k whose number is less than 0, as a set. -/
def endl (l : List Int) : Nat → Nat
  | 0 => 0
  | k + 1 => if l.getD k 0 < 0 then endl l k ||| 2 ^ k else endl l k
theorem endl_bit (l : List Int) (j : Nat) : ∀ k, (endl l k).testBit j = true ↔ j < k ∧ l.getD j 0 < 0
  | 0 => by simp [endl]
  | k + 1 => by
    have ih := endl_bit l j k
    rw [endl]
    by_cases hk : l.getD k 0 < 0
    · rw [if_pos hk, Nat.testBit_or, Bool.or_eq_true, ih, Nat.testBit_two_pow, decide_eq_true_eq]
      constructor
      · rintro (⟨h1, h2⟩ | rfl)
        · exact ⟨by omega, h2⟩
        · exact ⟨by omega, hk⟩
      · rintro ⟨h1, h2⟩
        by_cases hj : k = j
        · exact .inr hj
        · exact .inl ⟨by omega, h2⟩
    · rw [if_neg hk, ih]
      constructor
      · rintro ⟨h1, h2⟩; exact ⟨by omega, h2⟩
      · rintro ⟨h1, h2⟩
        by_cases hj : k = j
        · subst hj; exact absurd h2 hk
        · exact ⟨by omega, h2⟩
theorem endl_lt (l : List Int) : ∀ k, endl l k < 2 ^ k
  | 0 => by simp [endl]
  | k + 1 => by
    have ih := endl_lt l k
    have h2 : 2 ^ k < 2 ^ (k + 1) := two_lt (by omega)
    rw [endl]
    split
    · exact Nat.or_lt_two_pow (by omega) h2
    · omega
/-- The points without a rank. -/
noncomputable def eset (xs : List Int) : Nat := endl (ranks xs) (ranks xs).length
theorem eset_bit {xs : List Int} (h : RelOk xs) (j : Nat) : (eset xs).testBit j = true ↔ j < xs.length ∧ (ranks xs).getD j 0 < 0 := by
  rw [eset, endl_bit, (ranks_spec h).1]
theorem eset_lt {xs : List Int} (h : RelOk xs) : eset xs < 2 ^ xs.length := by
  have := endl_lt (ranks xs) (ranks xs).length
  rw [(ranks_spec h).1] at this
  rw [eset, (ranks_spec h).1]; exact this
theorem eset_no {xs : List Int} (h : ¬ RelOk xs) : eset xs = 0 := by rw [eset, ranks_no h]; rfl
theorem eset_4 (xs : List Int) : eset xs < 4096 := by
  rcases Classical.em (RelOk xs) with h | h
  · exact Nat.lt_of_lt_of_le (eset_lt h) (two_le h.1.2)
  · rw [eset_no h]; decide
noncomputable def wfB (xs : List Int) : Bool := relB xs && decide (eset xs = 0)
theorem wfB_no {xs : List Int} (h : relB xs = false) : wfB xs = false := by rw [wfB, h]; rfl
theorem wfB_in {xs : List Int} (h : relB xs = true) : wfB xs = decide (eset xs = 0) := by rw [wfB, h]; rfl
theorem wfB_true {xs : List Int} : wfB xs = true ↔ RelOk xs ∧ ∀ p, p < xs.length → 0 ≤ (ranks xs).getD p 0 := by
  rw [wfB, Bool.and_eq_true, relB_true, decide_eq_true_eq]
  constructor
  · rintro ⟨h1, h2⟩
    refine ⟨h1, fun p hp => ?_⟩
    have h3 := eset_bit h1 p
    rw [h2, Nat.zero_testBit] at h3
    have : ¬ (p < xs.length ∧ (ranks xs).getD p 0 < 0) := fun h => by have := h3.2 h; cases this
    omega
  · rintro ⟨h1, h2⟩
    refine ⟨h1, set_ext (fun k => ?_)⟩
    rw [Nat.zero_testBit]
    cases h3 : (eset xs).testBit k with
    | false => rfl
    | true => have := (eset_bit h1 k).1 h3; have := h2 k this.1; omega

set_option maxHeartbeats 2000000 in
theorem endlessOf_any (ao : Option Addr) (n c : Nat) (xs : List Int) (w : World) (h : Sl w ao n c xs) (hT : Tab w) :
    Calls Tryd.prog 39 #[.slice ao n c] w fun e w' => e = .returned (.int .i64 (eset xs : Nat)) ∧ Below w.heap.size w w' := by
  have k1 := Lib.hid (impl_RanksOf ao n c xs w h hT)
  unfold RkPost at k1
  have hrl := ranks_len xs
  have hel : ∀ k, k ≤ (ranks xs).length → k ≤ 12 := fun k hk => by
    rcases Classical.em (RelOk xs) with h9 | h9
    · have := (ranks_spec h9).1; have := h9.1.2; omega
    · rw [ranks_no h9] at hk; simp at hk; omega
  obtain ⟨E, hE⟩ : ∃ E, E = eset xs := ⟨_, rfl⟩
  rw [← hE]
  unfold eset at hE
  obtain ⟨l, hl⟩ : ∃ l, l = ranks xs := ⟨_, rfl⟩
  rw [← hl] at k1 hE hrl hel
  have HE := Lib.hid hE
  have Hel := Lib.hid hel
  clear h hT hl hE hel
  obtain ⟨N, hN⟩ : ∃ N, N = l.length := ⟨_, rfl⟩
  rw [← hN] at k1 HE hrl Hel
  have HN := Lib.hid hN
  clear hN
  go_enter Tryd.func39, Tryd.ntmps39
  go_wp2_with fail
  refine (k1.out).mono ?_
  rintro ee w1 ⟨a, c1, rfl, ho, hb⟩
  have Hb := Lib.hid hb
  have Ho := Lib.hid ho
  have hsl := Sl.of_own ho
  have Hsl := Lib.hid hsl
  clear ho hb hsl
  go_wp2_with fail
  go_loopw [3, 4, 5, 9] (fun v3 _ _ v9 wr => ∃ k : Nat, k ≤ N ∧ v9 = .int .i64 k ∧ v3 = .int .i64 (endl l k : Nat) ∧ w1 = wr) (fun _ _ _ v9 _ => N - (intOf v9).toNat)
  case atStart => exact ⟨0, Nat.zero_le _, rfl, rfl, rfl⟩
  case round =>
    obtain ⟨k, hk, rfl, rfl, rfl⟩ := hrel
    have hk12 := Hel.out k hk
    have hes := endl_lt l k
    have he4 : endl l k < 4096 := Nat.lt_of_lt_of_le hes (two_le hk12)
    have hnx : endl l (k + 1) = if l.getD k 0 < 0 then endl l k ||| 2 ^ k else endl l k := rfl
    by_cases hlt : k < N
    · obtain ⟨b, off, rfl, hat⟩ := Hsl.out.2.2.2 (by omega)
      have y0 := hat k (by rw [Hsl.out.1]; exact hlt)
      have h2p : 2 ^ k ≤ 4096 := two_le hk12
      have ho := or_i64 (endl l k) (2 ^ k) (by omega) (by omega)
      have ks := Lib.hid (fun wx => setOf_any k (by omega) wx)
      obtain ⟨x, hx⟩ : ∃ x, x = l.getD k 0 := ⟨_, rfl⟩
      rw [← hx] at y0 hnx
      obtain ⟨q, hq⟩ : ∃ q, q = 2 ^ k := ⟨_, rfl⟩
      obtain ⟨e, he⟩ : ∃ e, e = endl l k := ⟨_, rfl⟩
      obtain ⟨o, hoo⟩ : ∃ o, o = e ||| q := ⟨_, rfl⟩
      rw [← hq] at ks ho hnx
      rw [← he] at ho hnx he4 ⊢
      rw [← hoo] at ho hnx
      clear hx hq he hoo hes hat h2p
      by_cases hx0 : x < 0
      · rw [if_pos hx0] at hnx
        have Hnx := Lib.hid hnx
        clear hnx
        go_wp2_with fail
        refine (ks.out _).mono ?_
        rintro ee wx ⟨rfl, rfl⟩
        go_wp2_with fail
        go_roundw
        case rel => exact ⟨k + 1, by omega, by go_num, by rw [Hnx.out], by trivial⟩
        case measure => exact idx_measure hlt
      · rw [if_neg hx0] at hnx
        have Hnx := Lib.hid hnx
        have hx0' : decide (x < 0) = false := by simpa using hx0
        clear hnx
        go_wp2_with fail
        go_roundw
        case rel => exact ⟨k + 1, by omega, by go_num, by rw [Hnx.out], by trivial⟩
        case measure => exact idx_measure hlt
    · obtain rfl : k = N := by omega
      rw [← HE.out]
      clear hnx hes he4
      go_wp2_with fail
      go_ret
      exact ⟨rfl, Hb.out⟩

theorem impl_WellFounded (ao : Option Addr) (n c : Nat) (xs : List Int) (w : World) (h : Sl w ao n c xs) (hT : Tab w) :
    Calls Tryd.prog 12 #[.slice ao n c] w fun e w' => e = .returned (.bool (wfB xs)) ∧ Below w.heap.size w w' := by
  have k1 := Lib.hid (iRelValid_any ao n c xs w h)
  have k2 := Lib.hid (endlessOf_any ao n c xs w h hT)
  rcases rel_tf xs with h1 | h1
  · rw [h1] at k1
    have hz : (((eset xs : Nat) : Int) == 0) = wfB xs := by
      rw [wfB_in h1]
      by_cases h9 : eset xs = 0
      · simp [h9]
      · simp [h9]
    obtain ⟨o, ho⟩ : ∃ o, o = wfB xs := ⟨_, rfl⟩
    obtain ⟨E, hE⟩ : ∃ E, E = eset xs := ⟨_, rfl⟩
    rw [← ho] at hz ⊢
    rw [← hE] at hz k2
    clear h hT h1 ho hE
    go_enter Tryd.func12, Tryd.ntmps12
    go_wp2_with fail
    refine (k1.out).mono ?_
    rintro ee wx ⟨rfl, rfl⟩
    go_wp2_with fail
    refine (k2.out).mono ?_
    rintro ee w2 ⟨rfl, hb⟩
    have Hb := Lib.hid hb
    clear hb
    go_wp2_with fail
    go_ret
    exact ⟨rfl, Hb.out⟩
  · rw [h1] at k1
    rw [wfB_no h1]
    clear h hT h1
    go_enter Tryd.func12, Tryd.ntmps12
    go_wp2_with fail
    refine (k1.out).mono ?_
    rintro ee wx ⟨rfl, rfl⟩
    go_wp2_with fail
    go_ret
    exact ⟨rfl, Below.refl _ _⟩


end Go.Proofs.YtagdeifalkenhaaDoor
