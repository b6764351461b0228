/- What the drawn laws of chapter 4 say, on rows. -/
import Derived.Test.YtaealfmgmonndaaPlainM
namespace Go.Proofs.Ytaealfmgmonndaa
set_option maxRecDepth 100000
namespace T

theorem base_some {n b : Int} (h : baseRow n b ≠ []) : ∃ (N B : Nat), n = N ∧ b = B ∧ N ≤ 1000000000 ∧ 2 ≤ B ∧ B ≤ 90 ∧ baseRow n b = (ordB B N).enc ∧ vldB (ordB B N).enc = true := by
  unfold baseRow at h ⊢
  split at h
  · rename_i hc
    rw [if_pos hc]
    rw [fit] at h ⊢
    split at h
    · rename_i hv
      rw [if_pos hv]
      exact ⟨n.toNat, b.toNat, by omega, by omega, by omega, by omega, by omega, rfl, hv⟩
    · exact absurd rfl h
  · exact absurd rfl h
theorem ordB_props {B N : Nat} (hB : 2 ≤ B) (hB2 : B ≤ 90) : (ordB B N).Nf ∧ (ordB B N).most < B ∧ (ordB B N).slow B = N :=
  ⟨ordB_nf hB (by omega) (N + 1) N (by omega), ordB_most hB (N + 1) N (by omega), ordB_slow hB (N + 1) N (by omega)⟩
theorem baseRow_of {t : T} {B : Nat} (hB : 2 ≤ B) (hB2 : B ≤ 90) (ht : vldB t.enc = true) (hm : t.most < B) (hs : t.slow B ≤ 1000000000) : baseRow (t.slow B : Int) (B : Int) = t.enc := by
  obtain ⟨h1, u, h2, h3⟩ := vldB_true.1 ht
  have hu : t.Nf := by
    have e : of t.enc = of u.enc := by first | rw [h2] | rw [← h2]
    rw [of_enc, of_enc] at e
    rw [e]; exact h3
  rw [baseRow_in hs hB hB2, ordB_of_slow hB (by omega) hu hm, fit, if_pos ht]
theorem slowRow_enc {t : T} {v : Nat} (h : vldB t.enc = true) (h1 : 1 ≤ v) (h2 : v ≤ 99) : slowRow t.enc (v : Int) = slowI v t := by
  rw [slowRow, if_pos ⟨h, by omega, by omega⟩, of_enc]; rfl
theorem mostRow_enc {t : T} (h : vldB t.enc = true) : mostRow t.enc = t.most := by rw [mostRow, if_pos h, of_enc]
theorem slowI_in {b : Nat} {t : T} (h : t.slow b ≤ 1000000000) : slowI b t = (t.slow b : Int) := if_pos h

theorem base_slow {n b : Int} (h : baseRow n b ≠ []) : slowRow (baseRow n b) b = n := by
  obtain ⟨N, B, rfl, rfl, h1, h2, h3, h4, h5⟩ := base_some h
  obtain ⟨p1, p2, p3⟩ := ordB_props (N := N) h2 h3
  rw [h4, slowRow_enc h5 (by omega) (by omega), slowI_in (by omega), p3]
theorem base_ok {n b : Int} (h : baseRow n b ≠ []) : vldB (baseRow n b) = true ∧ baseOk (baseRow n b) b = true := by
  obtain ⟨N, B, rfl, rfl, h1, h2, h3, h4, h5⟩ := base_some h
  obtain ⟨p1, p2, p3⟩ := ordB_props (N := N) h2 h3
  rw [h4, baseOk, h5, mostRow_enc h5, decide_eq_true p2, decide_eq_true (by omega)]
  exact ⟨rfl, rfl⟩
theorem base_cmp {n m b : Int} (h : baseRow n b ≠ []) (h' : baseRow m b ≠ []) : cmpRow (baseRow n b) (baseRow m b) = if n < m then -1 else if m < n then 1 else 0 := by
  obtain ⟨N, B, rfl, rfl, h1, h2, h3, h4, h5⟩ := base_some h
  obtain ⟨M, B', rfl, hb, k1, k2, k3, k4, k5⟩ := base_some h'
  obtain rfl : B = B' := by omega
  rw [h4, k4, cmpRow_val h5 k5, of_enc, of_enc]
  rcases Nat.lt_trichotomy N M with hlt | rfl | hgt
  · rw [if_pos (by omega)]; exact ordB_lt h2 (M + 1) M (by omega) N hlt
  · rw [if_neg (by omega), if_neg (by omega)]; exact cmp_refl _
  · rw [if_neg (by omega), if_pos (by omega), cmp_swap, ordB_lt h2 (N + 1) N (by omega) M hgt]; rfl

theorem baseOk_some {xs : List Int} {b : Int} (h : baseOk xs b = true) : ∃ (t : T) (B : Nat), xs = t.enc ∧ b = B ∧ 2 ≤ B ∧ B ≤ 90 ∧ vldB t.enc = true ∧ t.most < B := by
  rw [baseOk, Bool.and_eq_true, Bool.and_eq_true, decide_eq_true_iff, decide_eq_true_iff] at h
  obtain ⟨h1, h2, h3⟩ := h
  obtain ⟨_, t, h5, _⟩ := vldB_true.1 h1
  have h6 : xs = t.enc := by first | exact h5 | exact h5.symm
  subst h6
  rw [mostRow_enc h1] at h3
  exact ⟨t, b.toNat, rfl, by omega, by omega, by omega, h1, by omega⟩
theorem baseOk_base {xs : List Int} {b : Int} (h : baseOk xs b = true) : slowRow xs b < 0 ∨ baseRow (slowRow xs b) b = xs := by
  obtain ⟨t, B, rfl, rfl, h2, h3, h4, h5⟩ := baseOk_some h
  rw [slowRow_enc h4 (by omega) (by omega)]
  by_cases hs : t.slow B ≤ 1000000000
  · right; rw [slowI_in hs]; exact baseRow_of h2 h3 h4 h5 hs
  · left; rw [slowI, if_neg hs]; decide
theorem baseOk_next {xs : List Int} {b : Int} (h : baseOk xs b = true) (hb : b ≠ 90) : baseOk xs (b + 1) = true := by
  obtain ⟨t, B, rfl, rfl, h2, h3, h4, h5⟩ := baseOk_some h
  rw [baseOk, h4, mostRow_enc h4, decide_eq_true (by omega), decide_eq_true (by omega)]; rfl

theorem change_some {n a b : Int} (h : 0 ≤ changeI n a b) : baseRow n a ≠ [] ∧ 2 ≤ b ∧ b ≤ 90 ∧ slowRow (baseRow n a) b = changeI n a b := by
  rw [changeI] at h ⊢
  split at h
  · rename_i hb
    refine ⟨fun h0 => ?_, hb.1, hb.2, (if_pos hb).symm⟩
    rw [h0] at h
    have h1 := (slowRow_some h).1
    obtain ⟨_, t, h5, _⟩ := vldB_true.1 h1
    first | exact absurd h5 (enc_ne t) | exact absurd h5.symm (enc_ne t)
  · omega
theorem change_same {n a : Int} (h : baseRow n a ≠ []) : changeI n a a = n := by
  obtain ⟨N, B, rfl, rfl, h1, h2, h3, h4, h5⟩ := base_some h
  rw [changeI, if_pos ⟨by omega, by omega⟩]; exact base_slow h
theorem change_up {n a b : Int} (h : 0 ≤ changeI n a b) (hab : a ≤ b) : n ≤ changeI n a b ∧ baseRow (changeI n a b) b = baseRow n a := by
  obtain ⟨g1, g2, g3, g4⟩ := change_some h
  rw [← g4] at h ⊢
  obtain ⟨N, A, rfl, rfl, h1, h2, h3, h4, h5⟩ := base_some g1
  obtain ⟨p1, p2, p3⟩ := ordB_props (N := N) h2 h3
  obtain ⟨B, rfl⟩ := Int.eq_ofNat_of_zero_le (show 0 ≤ b by omega)
  rw [h4] at h ⊢
  have e := slowRow_enc h5 (show 1 ≤ B by omega) (show B ≤ 99 by omega)
  rw [e] at h ⊢
  by_cases hs : (ordB A N).slow B ≤ 1000000000
  · rw [slowI_in hs]
    have hu := slow_up (show 1 ≤ A by omega) (show A ≤ B by omega) (ordB A N)
    exact ⟨by omega, baseRow_of (by omega) (by omega) h5 (by omega) hs⟩
  · rw [slowI, if_neg hs] at h; omega

theorem slow_strict {b n : Nat} (hb : 2 ≤ b) (hn : b ≤ n) : n + 1 ≤ (ordB b n).slow (b + 1) := by
  obtain ⟨t, h1, h2, h3, h4, h5, h6, h7, h8⟩ := top_ex hb (show 0 < n by omega)
  rw [ordB_eq hb, dig_c (ordB b) hb h1 h2, slow, Int.toNat_natCast, ← ordB_eq hb]
  have ht : t ≠ 0 := by
    intro h0
    subst h0
    rw [Nat.zero_add, Nat.pow_one] at h2
    omega
  have s1 := ordB_slow hb (t + 1) t (by omega)
  have s2 := slow_up (show 1 ≤ b by omega) (show b ≤ b + 1 by omega) (ordB b t)
  have s3 := ordB_slow hb (n % b ^ t + 1) (n % b ^ t) (by omega)
  have s4 := slow_up (show 1 ≤ b by omega) (show b ≤ b + 1 by omega) (ordB b (n % b ^ t))
  have p1 : b ^ t < (b + 1) ^ t := Nat.pow_lt_pow_left (by omega) ht
  have p2 : (b + 1) ^ t ≤ (b + 1) ^ (ordB b t).slow (b + 1) := Nat.pow_le_pow_right (by omega) (by omega)
  have p3 : n / b ^ t * (b ^ t + 1) ≤ n / b ^ t * (b + 1) ^ (ordB b t).slow (b + 1) := Nat.mul_le_mul_left _ (by omega)
  rw [Nat.mul_add, Nat.mul_one] at p3
  omega

theorem good_some {n b : Int} (h : 0 ≤ goodI n b) : 1 ≤ n ∧ 2 ≤ b ∧ b ≤ 89 ∧ changeI n b (b + 1) = goodI n b + 1 := by
  rw [goodI] at h ⊢
  split at h
  · rename_i hc
    rw [if_pos hc]
    exact ⟨hc.1, hc.2.1, hc.2.2.1, by omega⟩
  · omega
theorem good_fall {n b : Int} (h : 0 ≤ goodI n b) : baseRow n b ≠ [] ∧ (baseRow (goodI n b) (b + 1) = [] ∨ cmpRow (baseRow (goodI n b) (b + 1)) (baseRow n b) = -1) ∧ (b ≤ n → n ≤ goodI n b) := by
  obtain ⟨hn, hb1, hb2, hc⟩ := good_some h
  have hc0 : 0 ≤ changeI n b (b + 1) := by omega
  obtain ⟨g1, g2, g3, g4⟩ := change_some hc0
  obtain ⟨_, hback⟩ := change_up hc0 (by omega)
  rw [hc] at hback g4
  refine ⟨g1, ?_, fun hbn => ?_⟩
  · by_cases he : baseRow (goodI n b) (b + 1) = []
    · exact .inl he
    · right
      have hne : baseRow (goodI n b + 1) (b + 1) ≠ [] := by rw [hback]; exact g1
      have h1 := base_cmp he hne
      rw [if_pos (by omega), hback] at h1
      exact h1
  · obtain ⟨N, B, rfl, rfl, h1, h2, h3, h4, h5⟩ := base_some g1
    have h6 := slow_strict h2 (show B ≤ N by omega)
    have e := slowRow_enc h5 (show 1 ≤ B + 1 by omega) (show B + 1 ≤ 99 by omega)
    rw [h4, show ((B : Int) + 1) = ((B + 1 : Nat) : Int) by omega, e] at g4
    rw [show ((B : Int) + 1) = ((B + 1 : Nat) : Int) by omega] at *
    by_cases hs : (ordB B N).slow (B + 1) ≤ 1000000000
    · rw [slowI_in hs] at g4; omega
    · rw [slowI, if_neg hs] at g4; omega

end T
end Go.Proofs.Ytaealfmgmonndaa
