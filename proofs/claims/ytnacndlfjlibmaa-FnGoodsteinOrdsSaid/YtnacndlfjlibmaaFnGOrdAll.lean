/- FnGOrdAll: one text out of PlainM, GoodL, GoodQ, RowsK, BaseW, GoodR, DrawG, LFnGoodsteinOrds. -/
import Derived.Test.YtnacndlfjlibmaaGoodN
import Derived.Test.YtnacndlfjlibmaaBaseV
import Derived.Test.YtnacndlfjlibmaaPost
import Derived.Test.YtnacndlfjlibmaaMark
import Derived.Test.YtnacndlfjlibmaaSlow
import Derived.Deep.RegionHeld3
import Derived.Test.YtnacndlfjlibmaaDraw0
import Derived.Deep.RegionWith
/- PlainM -/
/- The numbers that digits are in the next base. -/
namespace Go.Proofs.Ytnacndlfjlibmaa
set_option maxRecDepth 100000
namespace T

def rd (b n : Nat) : Nat := readD (b + 1) (digs b n)
theorem rd_z (b : Nat) : rd b 0 = 0 := by rw [rd, digs_z]; rfl
theorem rd_eq {b : Nat} (hb : 2 ≤ b) (n : Nat) : rd b n = n % b + (b + 1) * rd b (n / b) := by
  rcases Nat.eq_zero_or_pos n with rfl | hn
  · rw [Nat.zero_mod, Nat.zero_div, rd_z]; rfl
  · rw [rd, digs_c hb hn]; rfl
theorem rd_lin {b : Nat} (hb : 2 ≤ b) : ∀ k n, n < b ^ (k + 1) → 2 ^ k * rd b n ≤ 3 ^ k * n := by
  intro k
  induction k with
  | zero =>
    intro n h
    have h1 : n < b := by simpa using h
    rw [rd_eq hb, Nat.div_eq_of_lt h1, rd_z, Nat.mod_eq_of_lt h1]
    simp
  | succ k ih =>
    intro n h
    have h1 := ih (n / b) ((Nat.div_lt_iff_lt_mul (by omega)).2 (by rw [← Nat.pow_succ]; exact h))
    have h2 : 2 ^ k ≤ 3 ^ k := Nat.pow_le_pow_left (by omega) k
    have h3 := Nat.div_add_mod n b
    rw [rd_eq hb]
    obtain ⟨X, hX⟩ : ∃ X, X = 2 ^ k := ⟨_, rfl⟩
    obtain ⟨Y, hY⟩ : ∃ Y, Y = 3 ^ k := ⟨_, rfl⟩
    obtain ⟨m, hm⟩ : ∃ m, m = n / b := ⟨_, rfl⟩
    obtain ⟨d, hd⟩ : ∃ d, d = n % b := ⟨_, rfl⟩
    rw [Nat.pow_succ, Nat.pow_succ, ← hX, ← hY, ← hm, ← hd]
    rw [← hX, ← hY, ← hm] at h1
    rw [← hX, ← hY] at h2
    rw [← hm, ← hd] at h3
    obtain ⟨r, hr⟩ : ∃ r, r = rd b m := ⟨_, rfl⟩
    rw [← hr] at h1 ⊢
    have h4 : X * 2 * d ≤ Y * 3 * d := Nat.mul_le_mul_right d (by omega)
    have h5 : (2 * (b + 1)) * (X * r) ≤ (3 * b) * (Y * m) := Nat.mul_le_mul (by omega) h1
    have h6 : X * 2 * ((b + 1) * r) = (2 * (b + 1)) * (X * r) := by simp only [Nat.mul_assoc, Nat.mul_comm, Nat.mul_left_comm]
    have h7 : Y * 3 * (b * m) = (3 * b) * (Y * m) := by simp only [Nat.mul_assoc, Nat.mul_comm, Nat.mul_left_comm]
    rw [← h3, Nat.mul_add, Nat.mul_add, h6, h7]
    omega
theorem rd_bound {b n : Nat} (hb : 2 ≤ b) (hn : n ≤ 1000000000) : rd b n ≤ 200000000000000 := by
  have h := rd_lin hb 29 n (big_pow hb hn)
  have h1 : 3 ^ 29 * n ≤ 3 ^ 29 * 1000000000 := Nat.mul_le_mul_left _ hn
  have h2 : (2 : Nat) ^ 29 = 536870912 := by decide
  have h3 : (3 : Nat) ^ 29 = 68630377364883 := by decide
  rw [h2] at h
  rw [h3] at h h1
  omega
theorem rd_pow {b : Nat} (hb : 2 ≤ b) : ∀ t, rd b (b ^ t) = (b + 1) ^ t := by
  intro t
  induction t with
  | zero => rw [Nat.pow_zero, Nat.pow_zero, rd_eq hb, Nat.div_eq_of_lt (by omega), rd_z, Nat.mod_eq_of_lt (by omega), Nat.mul_zero]
  | succ t ih => rw [rd_eq hb, Nat.pow_succ, Nat.mul_mod_left, Nat.mul_div_cancel _ (by omega), ih, Nat.pow_succ, Nat.mul_comm, Nat.zero_add]
theorem pow_bound {b t : Nat} (hb : 2 ≤ b) (h : b ^ t ≤ 1000000000) : (b + 1) ^ t ≤ 200000000000000 := by
  rw [← rd_pow hb]; exact rd_bound hb h
theorem mod7 : ∀ x, x < 7 → ∀ y, y < 7 → x * y % 7 = 0 → x = 0 ∨ y = 0 := by decide
theorem pow7 {B : Nat} (h : B % 7 ≠ 0) : ∀ k, B ^ k % 7 ≠ 0 := by
  intro k
  induction k with
  | zero => simp
  | succ k ih =>
    intro h1
    rw [Nat.pow_succ, Nat.mul_mod] at h1
    rcases mod7 _ (Nat.mod_lt _ (by omega)) _ (Nat.mod_lt _ (by omega)) h1 with h2 | h2
    · exact ih h2
    · exact h h2
/-- The number behind the greatest number is no power of a base. -/
theorem pow_ne {B k : Nat} (hB : B ≤ 91) : B ^ k ≠ 1000000001 := by
  intro h
  by_cases h7 : B % 7 = 0
  · obtain ⟨c, hc⟩ : ∃ c, B = 7 * c := ⟨B / 7, by omega⟩
    rcases k with _ | _ | k
    · simp at h
    · simp at h; omega
    · rw [Nat.pow_succ, Nat.pow_succ, hc] at h
      have h2 : (7 * c) ^ k * (7 * c) * (7 * c) = 49 * ((7 * c) ^ k * (c * c)) := by
        rw [show (49 : Nat) = 7 * 7 from rfl]; simp only [Nat.mul_assoc, Nat.mul_comm, Nat.mul_left_comm]
      rw [h2] at h
      omega
  · exact pow7 h7 k (by rw [h])

theorem plainI_in {b n : Nat} (h1 : 1 ≤ n) (h2 : n ≤ 1000000000) (h3 : 2 ≤ b) (h4 : b ≤ 89) : plainI (n : Int) (b : Int) = if (rd b n : Int) - 1 ≤ 1000000000 then (rd b n : Int) - 1 else -1 := by
  rw [plainI]
  show (if 1 ≤ (n : Int) ∧ (n : Int) ≤ 1000000000 ∧ 2 ≤ (b : Int) ∧ (b : Int) ≤ 89 ∧ (rd b n : Int) - 1 ≤ 1000000000 then (rd b n : Int) - 1 else -1) = _
  by_cases h : (rd b n : Int) - 1 ≤ 1000000000
  · rw [if_pos ⟨by omega, by omega, by omega, by omega, h⟩, if_pos h]
  · rw [if_neg (fun k => h k.2.2.2.2), if_neg h]
theorem plainI_out {n b : Int} (h : ¬ ((1 ≤ n ∧ n ≤ 1000000000) ∧ 2 ≤ b ∧ b ≤ 89)) : plainI n b = -1 := by
  rw [plainI, if_neg (fun k => h ⟨⟨k.1, k.2.1⟩, k.2.2.1, k.2.2.2.1⟩)]
theorem rd_step {b n t : Nat} (hb : 2 ≤ b) : rd b (n / b ^ t) = n / b ^ t % b + (b + 1) * rd b (n / b ^ (t + 1)) := by
  rw [rd_eq hb, Nat.div_div_eq_div_mul, ← Nat.pow_succ]

end T
end Go.Proofs.Ytnacndlfjlibmaa

/- GoodL -/
/- What the drawn laws of chapter 4 say, on rows. -/
namespace Go.Proofs.Ytnacndlfjlibmaa
namespace T

theorem base_some {n b : Int} (h : baseRow n b ≠ []) : ∃ (N B : Nat), n = N ∧ b = B ∧ N ≤ 1000000000 ∧ 2 ≤ B ∧ B ≤ 90 ∧ baseRow n b = (ordB B N).enc ∧ vldB (ordB B N).enc = true := by
  unfold baseRow at h ⊢
  split at h
  · rename_i hc
    rw [if_pos hc]
    rw [fit] at h ⊢
    split at h
    · rename_i hv
      rw [if_pos hv]
      exact ⟨n.toNat, b.toNat, by omega, by omega, by omega, by omega, by omega, rfl, hv⟩
    · exact absurd rfl h
  · exact absurd rfl h
theorem ordB_props {B N : Nat} (hB : 2 ≤ B) (hB2 : B ≤ 90) : (ordB B N).Nf ∧ (ordB B N).most < B ∧ (ordB B N).slow B = N :=
  ⟨ordB_nf hB (by omega) (N + 1) N (by omega), ordB_most hB (N + 1) N (by omega), ordB_slow hB (N + 1) N (by omega)⟩
theorem baseRow_of {t : T} {B : Nat} (hB : 2 ≤ B) (hB2 : B ≤ 90) (ht : vldB t.enc = true) (hm : t.most < B) (hs : t.slow B ≤ 1000000000) : baseRow (t.slow B : Int) (B : Int) = t.enc := by
  obtain ⟨h1, u, h2, h3⟩ := vldB_true.1 ht
  have hu : t.Nf := by
    have e : of t.enc = of u.enc := by first | rw [h2] | rw [← h2]
    rw [of_enc, of_enc] at e
    rw [e]; exact h3
  rw [baseRow_in hs hB hB2, ordB_of_slow hB (by omega) hu hm, fit, if_pos ht]
theorem slowRow_enc {t : T} {v : Nat} (h : vldB t.enc = true) (h1 : 1 ≤ v) (h2 : v ≤ 99) : slowRow t.enc (v : Int) = slowI v t := by
  rw [slowRow, if_pos ⟨h, by omega, by omega⟩, of_enc]; rfl
theorem mostRow_enc {t : T} (h : vldB t.enc = true) : mostRow t.enc = t.most := by rw [mostRow, if_pos h, of_enc]
theorem slowI_in {b : Nat} {t : T} (h : t.slow b ≤ 1000000000) : slowI b t = (t.slow b : Int) := if_pos h

theorem base_slow {n b : Int} (h : baseRow n b ≠ []) : slowRow (baseRow n b) b = n := by
  obtain ⟨N, B, rfl, rfl, h1, h2, h3, h4, h5⟩ := base_some h
  obtain ⟨p1, p2, p3⟩ := ordB_props (N := N) h2 h3
  rw [h4, slowRow_enc h5 (by omega) (by omega), slowI_in (by omega), p3]
theorem base_ok {n b : Int} (h : baseRow n b ≠ []) : vldB (baseRow n b) = true ∧ baseOk (baseRow n b) b = true := by
  obtain ⟨N, B, rfl, rfl, h1, h2, h3, h4, h5⟩ := base_some h
  obtain ⟨p1, p2, p3⟩ := ordB_props (N := N) h2 h3
  rw [h4, baseOk, h5, mostRow_enc h5, decide_eq_true p2, decide_eq_true (by omega)]
  exact ⟨rfl, rfl⟩
theorem base_cmp {n m b : Int} (h : baseRow n b ≠ []) (h' : baseRow m b ≠ []) : cmpRow (baseRow n b) (baseRow m b) = if n < m then -1 else if m < n then 1 else 0 := by
  obtain ⟨N, B, rfl, rfl, h1, h2, h3, h4, h5⟩ := base_some h
  obtain ⟨M, B', rfl, hb, k1, k2, k3, k4, k5⟩ := base_some h'
  obtain rfl : B = B' := by omega
  rw [h4, k4, cmpRow_val h5 k5, of_enc, of_enc]
  rcases Nat.lt_trichotomy N M with hlt | rfl | hgt
  · rw [if_pos (by omega)]; exact ordB_lt h2 (M + 1) M (by omega) N hlt
  · rw [if_neg (by omega), if_neg (by omega)]; exact cmp_refl _
  · rw [if_neg (by omega), if_pos (by omega), cmp_swap, ordB_lt h2 (N + 1) N (by omega) M hgt]; rfl

theorem baseOk_some {xs : List Int} {b : Int} (h : baseOk xs b = true) : ∃ (t : T) (B : Nat), xs = t.enc ∧ b = B ∧ 2 ≤ B ∧ B ≤ 90 ∧ vldB t.enc = true ∧ t.most < B := by
  rw [baseOk, Bool.and_eq_true, Bool.and_eq_true, decide_eq_true_iff, decide_eq_true_iff] at h
  obtain ⟨h1, h2, h3⟩ := h
  obtain ⟨_, t, h5, _⟩ := vldB_true.1 h1
  have h6 : xs = t.enc := by first | exact h5 | exact h5.symm
  subst h6
  rw [mostRow_enc h1] at h3
  exact ⟨t, b.toNat, rfl, by omega, by omega, by omega, h1, by omega⟩
theorem baseOk_base {xs : List Int} {b : Int} (h : baseOk xs b = true) : slowRow xs b < 0 ∨ baseRow (slowRow xs b) b = xs := by
  obtain ⟨t, B, rfl, rfl, h2, h3, h4, h5⟩ := baseOk_some h
  rw [slowRow_enc h4 (by omega) (by omega)]
  by_cases hs : t.slow B ≤ 1000000000
  · right; rw [slowI_in hs]; exact baseRow_of h2 h3 h4 h5 hs
  · left; rw [slowI, if_neg hs]; decide
theorem baseOk_next {xs : List Int} {b : Int} (h : baseOk xs b = true) (hb : b ≠ 90) : baseOk xs (b + 1) = true := by
  obtain ⟨t, B, rfl, rfl, h2, h3, h4, h5⟩ := baseOk_some h
  rw [baseOk, h4, mostRow_enc h4, decide_eq_true (by omega), decide_eq_true (by omega)]; rfl

theorem change_some {n a b : Int} (h : 0 ≤ changeI n a b) : baseRow n a ≠ [] ∧ 2 ≤ b ∧ b ≤ 90 ∧ slowRow (baseRow n a) b = changeI n a b := by
  rw [changeI] at h ⊢
  split at h
  · rename_i hb
    refine ⟨fun h0 => ?_, hb.1, hb.2, (if_pos hb).symm⟩
    rw [h0] at h
    have h1 := (slowRow_some h).1
    obtain ⟨_, t, h5, _⟩ := vldB_true.1 h1
    first | exact absurd h5 (enc_ne t) | exact absurd h5.symm (enc_ne t)
  · omega
theorem change_same {n a : Int} (h : baseRow n a ≠ []) : changeI n a a = n := by
  obtain ⟨N, B, rfl, rfl, h1, h2, h3, h4, h5⟩ := base_some h
  rw [changeI, if_pos ⟨by omega, by omega⟩]; exact base_slow h
theorem change_up {n a b : Int} (h : 0 ≤ changeI n a b) (hab : a ≤ b) : n ≤ changeI n a b ∧ baseRow (changeI n a b) b = baseRow n a := by
  obtain ⟨g1, g2, g3, g4⟩ := change_some h
  rw [← g4] at h ⊢
  obtain ⟨N, A, rfl, rfl, h1, h2, h3, h4, h5⟩ := base_some g1
  obtain ⟨p1, p2, p3⟩ := ordB_props (N := N) h2 h3
  obtain ⟨B, rfl⟩ := Int.eq_ofNat_of_zero_le (show 0 ≤ b by omega)
  rw [h4] at h ⊢
  have e := slowRow_enc h5 (show 1 ≤ B by omega) (show B ≤ 99 by omega)
  rw [e] at h ⊢
  by_cases hs : (ordB A N).slow B ≤ 1000000000
  · rw [slowI_in hs]
    have hu := slow_up (show 1 ≤ A by omega) (show A ≤ B by omega) (ordB A N)
    exact ⟨by omega, baseRow_of (by omega) (by omega) h5 (by omega) hs⟩
  · rw [slowI, if_neg hs] at h; omega

theorem slow_strict {b n : Nat} (hb : 2 ≤ b) (hn : b ≤ n) : n + 1 ≤ (ordB b n).slow (b + 1) := by
  obtain ⟨t, h1, h2, h3, h4, h5, h6, h7, h8⟩ := top_ex hb (show 0 < n by omega)
  rw [ordB_eq hb, dig_c (ordB b) hb h1 h2, slow, Int.toNat_natCast, ← ordB_eq hb]
  have ht : t ≠ 0 := by
    intro h0
    subst h0
    rw [Nat.zero_add, Nat.pow_one] at h2
    omega
  have s1 := ordB_slow hb (t + 1) t (by omega)
  have s2 := slow_up (show 1 ≤ b by omega) (show b ≤ b + 1 by omega) (ordB b t)
  have s3 := ordB_slow hb (n % b ^ t + 1) (n % b ^ t) (by omega)
  have s4 := slow_up (show 1 ≤ b by omega) (show b ≤ b + 1 by omega) (ordB b (n % b ^ t))
  have p1 : b ^ t < (b + 1) ^ t := Nat.pow_lt_pow_left (by omega) ht
  have p2 : (b + 1) ^ t ≤ (b + 1) ^ (ordB b t).slow (b + 1) := Nat.pow_le_pow_right (by omega) (by omega)
  have p3 : n / b ^ t * (b ^ t + 1) ≤ n / b ^ t * (b + 1) ^ (ordB b t).slow (b + 1) := Nat.mul_le_mul_left _ (by omega)
  rw [Nat.mul_add, Nat.mul_one] at p3
  omega

theorem good_some {n b : Int} (h : 0 ≤ goodI n b) : 1 ≤ n ∧ 2 ≤ b ∧ b ≤ 89 ∧ changeI n b (b + 1) = goodI n b + 1 := by
  rw [goodI] at h ⊢
  split at h
  · rename_i hc
    rw [if_pos hc]
    exact ⟨hc.1, hc.2.1, hc.2.2.1, by omega⟩
  · omega
theorem good_fall {n b : Int} (h : 0 ≤ goodI n b) : baseRow n b ≠ [] ∧ (baseRow (goodI n b) (b + 1) = [] ∨ cmpRow (baseRow (goodI n b) (b + 1)) (baseRow n b) = -1) ∧ (b ≤ n → n ≤ goodI n b) := by
  obtain ⟨hn, hb1, hb2, hc⟩ := good_some h
  have hc0 : 0 ≤ changeI n b (b + 1) := by omega
  obtain ⟨g1, g2, g3, g4⟩ := change_some hc0
  obtain ⟨_, hback⟩ := change_up hc0 (by omega)
  rw [hc] at hback g4
  refine ⟨g1, ?_, fun hbn => ?_⟩
  · by_cases he : baseRow (goodI n b) (b + 1) = []
    · exact .inl he
    · right
      have hne : baseRow (goodI n b + 1) (b + 1) ≠ [] := by rw [hback]; exact g1
      have h1 := base_cmp he hne
      rw [if_pos (by omega), hback] at h1
      exact h1
  · obtain ⟨N, B, rfl, rfl, h1, h2, h3, h4, h5⟩ := base_some g1
    have h6 := slow_strict h2 (show B ≤ N by omega)
    have e := slowRow_enc h5 (show 1 ≤ B + 1 by omega) (show B + 1 ≤ 99 by omega)
    rw [h4, show ((B : Int) + 1) = ((B + 1 : Nat) : Int) by omega, e] at g4
    rw [show ((B : Int) + 1) = ((B + 1 : Nat) : Int) by omega] at *
    by_cases hs : (ordB B N).slow (B + 1) ≤ 1000000000
    · rw [slowI_in hs] at g4; omega
    · rw [slowI, if_neg hs] at g4; omega

end T
end Go.Proofs.Ytnacndlfjlibmaa

/- GoodQ -/
/- What the drawn laws say of Goodstein sequences. -/
namespace Go.Proofs.Ytnacndlfjlibmaa
namespace T

theorem goods_chain : ∀ (k : Nat) (n b : Int) (i : Nat) (y : Int), (n :: goods k n b)[i + 1]? = some y → ∃ x, (n :: goods k n b)[i]? = some x ∧ y = goodI x (b + i) ∧ 0 ≤ y ∧ x ≠ 0 := by
  intro k
  induction k with
  | zero => intro n b i y h; simp [goods] at h
  | succ k ih =>
    intro n b i y h
    rcases goodI_vals n b with hg | ⟨hg0, hg1⟩
    · rw [goods_end hg] at h; simp at h
    · rw [goods_next hg0] at h ⊢
      cases i with
      | zero =>
        simp only [List.getElem?_cons_succ, List.getElem?_cons_zero, Option.some.injEq] at h
        subst h
        refine ⟨n, rfl, by simp, hg0, fun h0 => ?_⟩
        subst h0
        rw [goodI_zero] at hg0
        omega
      | succ i =>
        rw [List.getElem?_cons_succ] at h
        obtain ⟨x, h1, h2, h3, h4⟩ := ih (goodI n b) (b + 1) i y h
        exact ⟨x, by rw [List.getElem?_cons_succ]; exact h1, by rw [h2, show b + 1 + (i : Int) = b + ((i + 1 : Nat) : Int) by omega], h3, h4⟩
theorem goodRun_chain {n : Int} {i : Nat} {y : Int} (h : (goodRun n)[i + 1]? = some y) : ∃ x, (goodRun n)[i]? = some x ∧ y = goodI x ((i : Int) + 2) ∧ 0 ≤ y ∧ x ≠ 0 := by
  unfold goodRun at h ⊢
  split at h
  · rename_i hc
    rw [if_pos hc]
    obtain ⟨x, h1, h2, h3, h4⟩ := goods_chain 59 n 2 i y h
    exact ⟨x, h1, by rw [h2, Int.add_comm], h3, h4⟩
  · simp at h
theorem goodRun_head {n : Int} (h : 0 ≤ n ∧ n ≤ 1000000000) : (goodRun n)[0]? = some n := by rw [goodRun, if_pos h]; rfl
theorem goodRun_none {n : Int} (h : ¬ (0 ≤ n ∧ n ≤ 1000000000)) : goodRun n = [] := by rw [goodRun, if_neg h]

theorem goods_mem : ∀ (k : Nat) (n b x : Int), x ∈ goods k n b → 0 ≤ x ∧ x ≤ 1000000000 := by
  intro k
  induction k with
  | zero => intro n b x h; cases h
  | succ k ih =>
    intro n b x h
    rw [goods] at h
    split at h
    · cases h
    · rcases List.mem_cons.1 h with h1 | h1
      · rcases goodI_vals n b with h2 | h2
        · omega
        · rw [h1]; exact h2
      · exact ih _ _ _ h1
theorem goodRun_mem {n x : Int} (h : x ∈ goodRun n) : 0 ≤ x ∧ x ≤ 1000000000 := by
  unfold goodRun at h
  split at h
  · rename_i hc
    rcases List.mem_cons.1 h with h1 | h1
    · omega
    · exact goods_mem _ _ _ _ h1
  · cases h
theorem goodRun_cnt (n : Int) : (goodRun n).length ≤ 60 := by
  unfold goodRun
  split
  · simp only [List.length_cons]; have := goods_len 59 n 2; omega
  · simp


end T
end Go.Proofs.Ytnacndlfjlibmaa

/- RowsK -/
/- Rows of rows: in new memory, in the exact laws. -/
namespace Go.Proofs.Ytnacndlfjlibmaa
open Go.RowKit

/-- The rows of numbers lie in new memory, from the block B on. -/
def RowsI (B : Nat) (w : World) (vs : List Value) (xss : List (List Int)) : Prop :=
  vs.length = xss.length ∧ ∀ (i : Nat) (xs : List Int), xss[i]? = some xs → ∃ g c, vs[i]? = some (.slice (some ⟨g, 0, none⟩) xs.length c) ∧ w.ownsRow B 3 1 (.slice (some ⟨g, 0, none⟩) xs.length c) xs.length (ints xs)
/-- The rows of these ordinals. -/
def RowsT (B : Nat) (w : World) (vs : List Value) (ts : List T) : Prop := RowsI B w vs (ts.map T.enc)
theorem own_block {w : World} {B n c g : Nat} {xs : List Value} (h : w.ownsRow B 3 1 (.slice (some ⟨g, 0, none⟩) n c) n xs) : B ≤ g ∧ ∃ cur, w.heap[g]? = some (.cells cur 3 (0, 0)) := by
  obtain ⟨_, ⟨h, _⟩ | ⟨g', cap, cur, he, hB, hc, _⟩⟩ := h
  · cases h
  · cases he
    exact ⟨hB, cur, hc⟩
theorem own_of_block {w w' : World} {B n c g : Nat} {xs : List Value} (h : w.ownsRow B 3 1 (.slice (some ⟨g, 0, none⟩) n c) n xs) (hb : w'.heap[g]? = w.heap[g]?) : w'.ownsRow B 3 1 (.slice (some ⟨g, 0, none⟩) n c) n xs := by
  obtain ⟨h1, ⟨h, _⟩ | ⟨g', cap, cur, he, hB, hc, hrest⟩⟩ := h
  · cases h
  · cases he
    exact ⟨h1, .inr ⟨g, c, cur, rfl, hB, hb.trans hc, hrest⟩⟩
theorem RowsI.nil (B : Nat) (w : World) : RowsI B w [] [] := ⟨rfl, fun i t h => by simp at h⟩
theorem RowsT.nil (B : Nat) (w : World) : RowsT B w [] [] := RowsI.nil B w
theorem RowsI.snoc {B : Nat} {w : World} {vs : List Value} {ts : List (List Int)} (h : RowsI B w vs ts) {g c : Nat} {t : List Int} (h1 : w.ownsRow B 3 1 (.slice (some ⟨g, 0, none⟩) t.length c) t.length (ints t)) :
    RowsI B w (vs ++ [.slice (some ⟨g, 0, none⟩) t.length c]) (ts ++ [t]) := by
  refine ⟨by simp [h.1], fun i u hu => ?_⟩
  rcases Nat.lt_or_ge i ts.length with hi | hi
  · rw [List.getElem?_append_left hi] at hu
    rw [List.getElem?_append_left (by rw [h.1]; exact hi)]
    exact h.2 i u hu
  · rw [List.getElem?_append_right hi] at hu
    rw [List.getElem?_append_right (by rw [h.1]; exact hi)]
    obtain ⟨hlt, hu'⟩ := List.getElem?_eq_some_iff.1 hu
    have hi0 : i - ts.length = 0 := by simp at hlt; omega
    rw [hi0] at hu
    simp at hu
    subst hu
    exact ⟨g, c, by rw [h.1, hi0]; rfl, h1⟩
theorem RowsT.snoc {B : Nat} {w : World} {vs : List Value} {ts : List T} (h : RowsT B w vs ts) {g c : Nat} {t : T} (h1 : w.ownsRow B 3 1 (.slice (some ⟨g, 0, none⟩) t.enc.length c) t.enc.length (ints t.enc)) :
    RowsT B w (vs ++ [.slice (some ⟨g, 0, none⟩) t.enc.length c]) (ts ++ [t]) := by
  have := RowsI.snoc h h1
  rw [RowsT, List.map_append]
  exact this
theorem RowsI.kept {B : Nat} {w w' : World} {vs : List Value} {ts : List (List Int)} (h : RowsI B w vs ts) (hk : ∀ g cur, B ≤ g → w.heap[g]? = some (.cells cur 3 (0, 0)) → w'.heap[g]? = w.heap[g]?) : RowsI B w' vs ts := by
  refine ⟨h.1, fun i t ht => ?_⟩
  obtain ⟨g, c, h1, h2⟩ := h.2 i t ht
  obtain ⟨hB, cur, hc⟩ := own_block h2
  exact ⟨g, c, h1, own_of_block h2 (hk g cur hB hc)⟩
theorem RowsT.kept {B : Nat} {w w' : World} {vs : List Value} {ts : List T} (h : RowsT B w vs ts) (hk : ∀ g cur, B ≤ g → w.heap[g]? = some (.cells cur 3 (0, 0)) → w'.heap[g]? = w.heap[g]?) : RowsT B w' vs ts := RowsI.kept h hk
theorem RowsT.le {B B' : Nat} {w : World} {vs : List Value} {ts : List T} (h : RowsT B w vs ts) (hB : B' ≤ B) : RowsT B' w vs ts :=
  ⟨h.1, fun i t ht => by
    obtain ⟨g, c, h1, h2⟩ := h.2 i t ht
    exact ⟨g, c, h1, Joins.ownsRow_le h2 hB⟩⟩

/-- The rows lie one behind the other, below the block U. -/
def Blocks (U : Nat) (vs : List Value) : Prop :=
  (∀ (i g n c : Nat), vs[i]? = some (.slice (some ⟨g, 0, none⟩) n c) → g < U) ∧ ∀ (i j g n c g' n' c' : Nat), i < j → vs[i]? = some (.slice (some ⟨g, 0, none⟩) n c) → vs[j]? = some (.slice (some ⟨g', 0, none⟩) n' c') → g < g'
theorem Blocks.nil (U : Nat) : Blocks U [] := ⟨fun i g n c h => by simp at h, fun i j g n c g' n' c' _ h => by simp at h⟩
theorem snoc_get {vs : List Value} {v u : Value} {i : Nat} (h : (vs ++ [v])[i]? = some u) : (i < vs.length ∧ vs[i]? = some u) ∨ (i = vs.length ∧ v = u) := by
  rcases Nat.lt_or_ge i vs.length with hi | hi
  · rw [List.getElem?_append_left hi] at h
    exact .inl ⟨hi, h⟩
  · rw [List.getElem?_append_right hi] at h
    obtain ⟨hlt, _⟩ := List.getElem?_eq_some_iff.1 h
    have hi0 : i - vs.length = 0 := by simp at hlt; omega
    rw [hi0] at h
    simp at h
    exact .inr ⟨by omega, h⟩
theorem Blocks.snoc {U U' g n c : Nat} {vs : List Value} (h : Blocks U vs) (h1 : U ≤ g) (h2 : g < U') : Blocks U' (vs ++ [.slice (some ⟨g, 0, none⟩) n c]) := by
  refine ⟨fun i g' n' c' hi => ?_, fun i j g1 n1 c1 g2 n2 c2 hij hi hj => ?_⟩
  · rcases snoc_get hi with ⟨_, h3⟩ | ⟨_, h3⟩
    · have := h.1 i g' n' c' h3; omega
    · cases h3; exact h2
  · rcases snoc_get hi with ⟨k1, h3⟩ | ⟨k1, h3⟩
    · rcases snoc_get hj with ⟨k2, h4⟩ | ⟨k2, h4⟩
      · exact h.2 i j g1 n1 c1 g2 n2 c2 hij h3 h4
      · cases h4
        have := h.1 i g1 n1 c1 h3; omega
    · rcases snoc_get hj with ⟨k2, h4⟩ | ⟨k2, h4⟩
      · omega
      · omega


def tot : List (List Int) → Nat
  | [] => 0
  | x :: r => x.length + tot r
def markSS (k : Int) : List (List Int) → List (List Int)
  | [] => []
  | x :: r => marks k x.length :: markSS (k + x.length) r
theorem tot_snoc (l : List (List Int)) (x : List Int) : tot (l ++ [x]) = tot l + x.length := by
  induction l with
  | nil => simp [tot]
  | cons y l ih => simp only [List.cons_append, tot, ih]; omega
theorem markSS_snoc (k : Int) (l : List (List Int)) (x : List Int) : markSS k (l ++ [x]) = markSS k l ++ [marks (k + tot l) x.length] := by
  induction l generalizing k with
  | nil => simp [markSS, tot]
  | cons y l ih =>
    simp only [List.cons_append, markSS, ih, tot]
    rw [show k + (y.length : Int) + (tot l : Int) = k + ((y.length + tot l : Nat) : Int) by omega]
theorem markSS_len (k : Int) (l : List (List Int)) : (markSS k l).length = l.length := by
  induction l generalizing k with
  | nil => rfl
  | cons y l ih => simp [markSS, ih]
theorem tot_le {l : List (List Int)} (h : ∀ x ∈ l, x.length ≤ 60) : tot l ≤ 60 * l.length := by
  induction l with
  | nil => exact Nat.le_refl _
  | cons y l ih =>
    have h1 := h y (List.mem_cons_self ..)
    have h2 := ih (fun x hx => h x (List.mem_cons_of_mem _ hx))
    simp only [tot, List.length_cons]; omega
theorem markSS_get (k : Int) {l : List (List Int)} {i : Nat} {x : List Int} (h : l[i]? = some x) : (markSS k l)[i]? = some (marks (k + tot (l.take i)) x.length) := by
  induction l generalizing k i with
  | nil => simp at h
  | cons y l ih =>
    cases i with
    | zero =>
      simp at h
      subst h
      simp [markSS, tot]
    | succ i =>
      simp only [List.getElem?_cons_succ] at h
      simp only [markSS, List.getElem?_cons_succ, List.take_succ_cons, tot, ih _ h]
      rw [show k + (y.length : Int) + (tot (l.take i) : Int) = k + ((y.length + tot (l.take i) : Nat) : Int) by omega]

theorem row_pickI {w : World} {B B' n c k : Nat} {a : Option Addr} {vs : List Value} {ts : List (List Int)} {t : List Int} (ho : w.ownsRow B' 23 1 (.slice a n c) n vs) (hr : RowsI B w vs ts) (hn : n = ts.length) (ht : ts[k]? = some t) :
    ∃ g r cr, a = some ⟨g, 0, none⟩ ∧ g < w.heap.size ∧ w.cell? ⟨g, k, none⟩ = some (.slice (some ⟨r, 0, none⟩) t.length cr) ∧ vs[k]? = some (.slice (some ⟨r, 0, none⟩) t.length cr) ∧ w.ownsRow B 3 1 (.slice (some ⟨r, 0, none⟩) t.length cr) t.length (ints t) := by
  obtain ⟨r, cr, h1, h2⟩ := hr.2 k t ht
  have hk : k < n := by rw [hn]; exact (List.getElem?_eq_some_iff.1 ht).1
  obtain ⟨ao, cap, he, hf⟩ := own_form ho
  cases he
  obtain ⟨g, rfl, hg, hc⟩ := hf (by omega)
  exact ⟨g, r, cr, rfl, hg, (hc k hk).trans h1, h1, h2⟩
theorem RowsI.below {B : Nat} {w w' : World} {vs : List Value} {ts : List (List Int)} (h : RowsI B w vs ts) (hb : Below w.heap.size w w') : RowsI B w' vs ts :=
  h.kept (fun _ _ _ hc => hb.block _ (Array.getElem?_eq_some_iff.1 hc).1)

theorem RowsI.set {B U g c : Nat} {w w' : World} {vs : List Value} {ys zs : List (List Int)} {x x' : List Int} (h : RowsI B w vs (ys ++ x :: zs)) (hb : Blocks U vs) (hv : vs[ys.length]? = some (.slice (some ⟨g, 0, none⟩) x.length c)) (hg : w.grownBy w' (some g)) (hl : x'.length = x.length)
    (ho : w'.ownsRow B 3 1 (.slice (some ⟨g, 0, none⟩) x'.length c) x'.length (ints x')) : RowsI B w' vs (ys ++ x' :: zs) := by
  refine ⟨by rw [h.1]; simp, fun i xs hi => ?_⟩
  rcases Nat.lt_trichotomy i ys.length with hlt | heq | hgt
  · rw [List.getElem?_append_left hlt] at hi
    obtain ⟨g1, c1, h1, h2⟩ := h.2 i xs (by rw [List.getElem?_append_left hlt]; exact hi)
    have hne := hb.2 i ys.length g1 _ _ g _ _ hlt h1 hv
    obtain ⟨_, cur, hc⟩ := own_block h2
    exact ⟨g1, c1, h1, own_of_block h2 (hg.block g1 (Array.getElem?_eq_some_iff.1 hc).1 (fun e => by have := Option.some.inj e; omega))⟩
  · subst heq
    rw [List.getElem?_append_right (Nat.le_refl _), Nat.sub_self] at hi
    simp at hi
    subst hi
    exact ⟨g, c, by rw [hv, hl], ho⟩
  · have e1 : (ys ++ x' :: zs)[i]? = (ys ++ x :: zs)[i]? := by
      rw [List.getElem?_append_right (Nat.le_of_lt hgt), List.getElem?_append_right (Nat.le_of_lt hgt)]
      obtain ⟨j, hj⟩ : ∃ j, i - ys.length = j + 1 := ⟨i - ys.length - 1, by omega⟩
      rw [hj, List.getElem?_cons_succ, List.getElem?_cons_succ]
    rw [e1] at hi
    obtain ⟨g1, c1, h1, h2⟩ := h.2 i xs hi
    have hne := hb.2 ys.length i g _ _ g1 _ _ hgt hv h1
    obtain ⟨_, cur, hc⟩ := own_block h2
    exact ⟨g1, c1, h1, own_of_block h2 (hg.block g1 (Array.getElem?_eq_some_iff.1 hc).1 (fun e => by have := Option.some.inj e; omega))⟩

end Go.Proofs.Ytnacndlfjlibmaa

/- BaseW -/
/- GoodsteinOrds: the program's and the model's answers. -/
namespace Go.Proofs.Ytnacndlfjlibmaa
open Go.RowKit

theorem T.goodOrds_stop {x b : Int} {xs : List Int} (h : T.baseRow x b = []) : T.goodOrds (x :: xs) b = [] := by rw [T.goodOrds, if_pos h]
theorem T.goodOrds_go {x b : Int} {xs : List Int} (h : T.baseRow x b ≠ []) : T.goodOrds (x :: xs) b = T.ordB b.toNat x.toNat :: T.goodOrds xs (b + 1) := by rw [T.goodOrds, if_neg h]
theorem T.baseRow_enc {x b : Int} (h : T.baseRow x b ≠ []) : (0 ≤ x ∧ x ≤ 1000000000 ∧ 2 ≤ b ∧ b ≤ 90) ∧ T.baseRow x b = (T.ordB b.toNat x.toNat).enc ∧ T.vldB (T.ordB b.toNat x.toNat).enc = true := by
  unfold T.baseRow at h ⊢
  split at h
  · rename_i hc
    rw [if_pos hc]
    rw [T.fit] at h ⊢
    split at h
    · rename_i hv
      rw [if_pos hv]
      exact ⟨hc, rfl, hv⟩
    · exact absurd rfl h
  · exact absurd rfl h
def GoPost (w : World) (r : List T) (e : Ending) (w' : World) : Prop :=
  ∃ a n c vs, e = .returned (.slice a n c) ∧ n = r.length ∧ w'.ownsRow w.heap.size 23 1 (.slice a n c) n vs ∧ RowsT w.heap.size w' vs r ∧ Below w.heap.size w w'
def GoPostI (w : World) (r : List T) (e : Ending) (w' : World) : Prop :=
  ∃ a n c vs, e = .returned (.slice a n c) ∧ n = r.length ∧ w'.ownsRow w.heap.size 23 1 (.slice a n c) n vs ∧ RowsT w.heap.size w' vs r ∧ Below w.heap.size w w' ∧ ∃ U, Blocks U vs

theorem RowsT.grown {B B' n : Nat} {W w' : World} {vs xs : List Value} {ts : List T} {v : Value} (h : RowsT B W vs ts) (ho : W.ownsRow B' 23 1 v n xs) (hg : W.grownBy w' v.ownBlock) : RowsT B w' vs ts :=
  h.kept (fun g cur _ hc => hg.block g (Array.getElem?_eq_some_iff.1 hc).1 (fun e => by
    obtain ⟨_, ⟨h1, _⟩ | ⟨g', cap, cur', he, _, hc', _⟩⟩ := ho
    · rw [h1] at e; cases e
    · rw [he] at e
      have e' : g = g' := by simpa [Value.ownBlock] using e
      rw [e'] at hc
      rw [hc] at hc'
      cases hc'))
theorem RowsT.below {B : Nat} {w w' : World} {vs : List Value} {ts : List T} (h : RowsT B w vs ts) (hb : Below w.heap.size w w') : RowsT B w' vs ts :=
  h.kept (fun _ _ _ hc => hb.block _ (Array.getElem?_eq_some_iff.1 hc).1)

/-- Between two rounds. -/
def GoL (w : World) (run : List Int) (ar : Option Addr) (L cr : Nat) (gk : Nat) (vo vi : Value) (wr : World) : Prop :=
  ∃ (i : Nat) (a : Option Addr) (c : Nat) (vs : List Value) (done : List T), vi = .int .i64 i ∧ gk + i = L ∧ vo = .slice a i c ∧ done.length = i ∧ T.goodOrds run 2 = done ++ T.goodOrds (run.drop i) ((i : Int) + 2) ∧
    wr.ownsRow w.heap.size 23 1 (.slice a i c) i vs ∧ RowsT w.heap.size wr vs done ∧ Blocks wr.heap.size vs ∧ wr.ownsRow w.heap.size 3 1 (.slice ar L cr) L (ints run) ∧ Below w.heap.size w wr

theorem GoL.done {w wr : World} {run : List Int} {a : Option Addr} {i c : Nat} {vs : List Value} {done r : List T} (ho : wr.ownsRow w.heap.size 23 1 (.slice a i c) i vs) (hR : RowsT w.heap.size wr vs done) (hB : Blocks wr.heap.size vs) (hb : Below w.heap.size w wr)
    (hd : done.length = i) (hr : T.goodOrds run 2 = done ++ r) (he : r = []) : GoPostI w (T.goodOrds run 2) (.returned (.slice a i c)) wr := by
  subst he
  rw [List.append_nil] at hr
  rw [hr]
  exact ⟨a, i, c, vs, rfl, hd.symm, ho, hR, hb, _, hB⟩
theorem GoPostI.weak {w w' : World} {r : List T} {e : Ending} (h : GoPostI w r e w') : GoPost w r e w' := by
  obtain ⟨a, n, c, vs, h1, h2, h3, h4, h5, _⟩ := h
  exact ⟨a, n, c, vs, h1, h2, h3, h4, h5⟩

/-- A row is appended. -/
theorem GoL.next {w w2 w3 : World} {run : List Int} {ar : Option Addr} {L cr t i g c2 c3 ln : Nat} {a a3 : Option Addr} {c : Nat} {vs : List Value} {done : List T} {u : T}
    (ho : w2.ownsRow w.heap.size 23 1 (.slice a i c) i vs) (hR : RowsT w.heap.size w2 vs done) (hB : Blocks w2.heap.size vs) (hrun : w2.ownsRow w.heap.size 3 1 (.slice ar L cr) L (ints run)) (hb : Below w.heap.size w w2)
    (hgk : t + 1 + i = L) (hd : done.length = i) (hn : T.goodOrds run 2 = (done ++ [u]) ++ T.goodOrds (run.drop (i + 1)) (((i + 1 : Nat) : Int) + 2)) (hln : ln = u.enc.length) (B2 : Nat) (hBb : ∀ (i' g' n' c' : Nat), vs[i']? = some (.slice (some ⟨g', 0, none⟩) n' c') → g' < B2) (hB2 : w.heap.size ≤ B2)
    (hnew : w2.ownsRow B2 3 1 (.slice (some ⟨g, 0, none⟩) ln c2) ln (ints u.enc))
    (h3 : w3.ownsRow w.heap.size 23 1 (.slice a3 (i + 1) c3) (i + 1) (vs ++ [.slice (some ⟨g, 0, none⟩) ln c2]))
    (hg : (w2.alloc (.cells #[.slice (some ⟨g, 0, none⟩) ln c2] 23)).grownBy w3 (Value.slice a i c).ownBlock) :
    GoL w run ar L cr t (.slice a3 (i + 1 : Nat) c3) (.int .i64 ((i + 1 : Nat) : Int)) w3 := by
  subst hln
  have hA : Below w2.heap.size w2 (w2.alloc (.cells #[.slice (some ⟨g, 0, none⟩) u.enc.length c2] 23)) := (Below.refl _ _).alloc (Nat.le_refl _) _
  have hgs : (w2.alloc (.cells #[.slice (some ⟨g, 0, none⟩) u.enc.length c2] 23)).heap.size ≤ w3.heap.size := hg.size
  rw [World.size_alloc] at hgs
  have hgl := (hnew.lt g rfl)
  have hR2 : RowsT w.heap.size w2 (vs ++ [.slice (some ⟨g, 0, none⟩) u.enc.length c2]) (done ++ [u]) := hR.snoc (Joins.ownsRow_le hnew hB2)
  refine ⟨i + 1, a3, c3, _, done ++ [u], rfl, by omega, rfl, by simp [hd], hn, h3, (hR2.below hA).grown (ho.alloc _) hg, ?_, (hrun.alloc _).kept hg (own_ne (hrun.alloc (.cells #[.slice (some ⟨g, 0, none⟩) u.enc.length c2] 23)) (ho.alloc _) (by decide)), (hb.alloc hb.size _).grown hg (by rw [World.size_alloc]; have := hb.size; omega) (fun r e => (ho.lt r e).1)⟩
  have hb1 : Blocks B2 vs := ⟨hBb, hB.2⟩
  exact hb1.snoc hgl.1 (by omega)

theorem eql_nil_yes (w : World) : (binOp .eql 23 (.slice none 0 0) (.slice none 0 0)).run Try.prog w = .ok (.bool true) w := by kernel_rfl
theorem eql_nil_no (w : World) (g n c : Nat) : (binOp .eql 23 (.slice (some ⟨g, 0, none⟩) n c) (.slice none 0 0)).run Try.prog w = .ok (.bool false) w := by kernel_rfl
theorem slice_one (a : Option Addr) (n c : Nat) : ∀ u ∈ [Value.slice a n c], u.oneCell' = true := slice_oneCell a n c

set_option maxHeartbeats 2000000 in
theorem impl_GoodsteinOrds (n : Int) (w : World) (hn0 : -9223372036854775808 ≤ n) (hn1 : n ≤ 9223372036854775807) :
    Calls Try.prog 53 #[.int .i64 n] w (GoPostI w (T.goodOrds (T.goodRun n) 2)) := by
  obtain ⟨j0, hj, hy0, hy1, hy2⟩ := info_parts info_ints
  have k1 := Lib.hid (impl_GoodsteinRun n w hn0 hn1)
  have hcnt := T.goodRun_cnt n
  have hmem := Lib.hid (fun x => T.goodRun_mem (n := n) (x := x))
  obtain ⟨run, hrun⟩ : ∃ run, run = T.goodRun n := ⟨_, rfl⟩
  rw [← hrun] at k1 hcnt hmem ⊢
  obtain ⟨L, hL⟩ : ∃ L, L = run.length := ⟨_, rfl⟩
  unfold IntPost at k1
  rw [← hL] at k1 hcnt
  have HL := Lib.hid hL
  clear hrun hL
  go_enter Try.func53, Try.ntmps53
  go_wp2_with fail
  refine (k1.out).mono ?_
  rintro ee w1 ⟨ar, cr, rfl, ho1, hb1⟩
  have hst : GoL w run ar L cr L (.slice none 0 0) (.int .i64 0) w1 :=
    ⟨0, none, 0, [], [], rfl, rfl, rfl, rfl, rfl, ⟨rfl, .inl ⟨rfl, rfl⟩⟩, RowsT.nil _ _, Blocks.nil _, ho1, hb1⟩
  have Hst := Lib.hid hst
  clear ho1 hb1 hst
  go_wp2_with fail
  go_loopg [3, 10] L (fun gk v3 v10 wr => GoL w run ar L cr gk v3 v10 wr)
  case atStart => exact Hst.out
  case round =>
    obtain ⟨i, a, c, vs, done, rfl, hgk, rfl, hd, hgo, ho, hR, hB, hrn, hb⟩ := hrel
    have Hd := Lib.hid hd
    have Hgo := Lib.hid hgo
    have Ho := Lib.hid ho
    have HR := Lib.hid hR
    have HB := Lib.hid hB
    have Hrn := Lib.hid hrn
    have Hb := Lib.hid hb
    have hws := hb.size
    clear hd hgo ho hR hB hrn hb
    by_cases hlt : i < L
    · obtain ⟨t, ht⟩ : ∃ t, gk = t + 1 := ⟨gk - 1, by omega⟩
      subst ht
      obtain ⟨gr, c', hv⟩ := Joins.ownsRow_form Hrn.out (by omega)
      simp only [Value.slice.injEq] at hv
      obtain ⟨rfl, _, rfl⟩ := hv
      have hir : i < run.length := by rw [← HL.out]; exact hlt
      obtain ⟨x, hx⟩ : ∃ x, x = run[i] := ⟨_, rfl⟩
      have hdr : run.drop i = x :: run.drop (i + 1) := by rw [hx]; exact List.drop_eq_getElem_cons hir
      have y0 : wr.cell? ⟨gr, i, none⟩ = some (.int .i64 x) := (Hrn.out.cellAt i (by omega)).trans (by rw [ints, List.getElem?_map, List.getElem?_eq_getElem hir, ← hx]; rfl)
      have Hdr := Lib.hid hdr
      have kg := Lib.hid (impl_OrdInBaseN x (2 + (i : Int)) wr)
      have hbi : (2 + (i : Int)) = (i : Int) + 2 := by omega
      rw [hbi] at kg
      have hcs := T.baseRow_cases x ((i : Int) + 2)
      have Hstop := Lib.hid (fun h => T.goodOrds_stop (x := x) (b := (i : Int) + 2) (xs := run.drop (i + 1)) h)
      have Hgoo := Lib.hid (fun h => T.goodOrds_go (x := x) (b := (i : Int) + 2) (xs := run.drop (i + 1)) h)
      have Henc := Lib.hid (fun h => T.baseRow_enc (x := x) (b := (i : Int) + 2) h)
      rw [← hbi] at kg
      obtain ⟨r, hr⟩ : ∃ r, r = T.baseRow x ((i : Int) + 2) := ⟨_, rfl⟩
      rw [hbi] at kg
      rw [← hr] at kg hcs Hstop Hgoo Henc
      rw [← hbi] at kg
      clear hir hx hdr hbi hr
      rcases hcs with rfl | ⟨hv, hl⟩
      · have hfin : ∀ wz, wz.ownsRow w.heap.size 23 1 (.slice a i c) i vs → RowsT w.heap.size wz vs done → Blocks wz.heap.size vs → Below w.heap.size w wz → GoPostI w (T.goodOrds run 2) (.returned (.slice a i c)) wz :=
          fun wz h1 h2 h3 h4 => GoL.done h1 h2 h3 h4 Hd.out Hgo.out (by rw [Hdr.out]; exact Hstop.out rfl)
        have Hfin := Lib.hid hfin
        clear hfin
        go_wp2_with fail
        refine (kg.out).mono ?_
        rintro ee w2 ⟨aN, cN, rfl, hnn, _, hb2⟩
        obtain ⟨rfl, rfl⟩ := hnn rfl
        have hf2 := Hfin.out w2 (ownsRow_below' Ho.out hb2) (HR.out.below hb2) ⟨fun i' g' n' c' h => Nat.lt_of_lt_of_le (HB.out.1 i' g' n' c' h) hb2.size, HB.out.2⟩ (Hb.out.trans (hb2.mono hws))
        have Hf2 := Lib.hid hf2
        have he1 := eql_nil_yes w2
        clear hb2 hf2 hnn
        go_wp2_with fail
        go_ret
        exact Hf2.out
      · have hrne : r ≠ [] := fun h => by rw [h] at hl; simp at hl
        obtain ⟨hrg, henc, _⟩ := Henc.out hrne
        have hgo2 := Hgoo.out hrne
        obtain ⟨u, hu⟩ : ∃ u, u = T.ordB ((i : Int) + 2).toNat x.toNat := ⟨_, rfl⟩
        rw [← hu] at henc hgo2
        have Hnx := Lib.hid (show T.goodOrds run 2 = (done ++ [u]) ++ T.goodOrds (run.drop (i + 1)) (((i + 1 : Nat) : Int) + 2) by
          rw [Hgo.out, Hdr.out, hgo2, List.append_assoc, List.singleton_append, show (((i + 1 : Nat) : Int) + 2) = (i : Int) + 2 + 1 by omega])
        subst henc
        obtain ⟨ln, hln⟩ : ∃ ln, ln = u.enc.length := ⟨_, rfl⟩
        unfold IntPostN at kg
        rw [← hln] at kg hl
        have HLn := Lib.hid hln
        have hi60 : i < 60 := by omega
        clear hv hrne hrg hgo2 hu hln
        go_wp2_with fail
        refine (kg.out).mono ?_
        rintro ee w2 ⟨aN, cN, rfl, _, hoN, hb2⟩
        obtain ⟨g, c', hv⟩ := Joins.ownsRow_form hoN hl
        simp only [Value.slice.injEq] at hv
        obtain ⟨rfl, _, rfl⟩ := hv
        have HoN := Lib.hid hoN
        have Ho2 := Lib.hid (ownsRow_below' Ho.out hb2)
        have HR2 := Lib.hid (HR.out.below hb2)
        have Hrn2 := Lib.hid (ownsRow_below' Hrn.out hb2)
        have Hb2 := Lib.hid (Hb.out.trans (hb2.mono hws))
        have hw2 := Hb2.out.size
        have HB2 := Lib.hid (show Blocks w2.heap.size vs from ⟨fun i' g' n' c' h => Nat.lt_of_lt_of_le (HB.out.1 i' g' n' c' h) hb2.size, HB.out.2⟩)
        have he1 := eql_nil_no w2 g ln cN
        clear hoN hb2
        go_wp2_with (first
          | (at_builtin; refine wpList_append_own_at _ rfl (.tmp 21) (.tmp 23) 48 rfl w.heap.size 23 j0 (.slice none 0 0) 1 24 Try.underlying48 hj hy0 hy1 hy2 rfl (by decide) _ i vs rfl (Ho2.out.alloc _) ⟨w2.heap.size, 0, none⟩ 1 1 [.slice (some ⟨g, 0, none⟩) ln cN] rfl rfl (cell_one_new _ _ _) (slice_one _ _ _) (by unfold maxLen; omega) (by omega) (by simp; omega) ?_; intro v3 w3 ho3 hg3 _ _; obtain ⟨a3, c3, rfl⟩ := own_shape ho3))
        have hfin := GoL.next Ho2.out HR2.out HB2.out Hrn2.out Hb2.out hgk Hd.out Hnx.out HLn.out wr.heap.size HB.out.1 hws HoN.out ho3 hg3
        have Hfin := Lib.hid hfin
        clear ho3 hg3 hfin
        go_wp2_with fail
        go_roundg t
        case measure => omega
        case rel => exact Hfin.out
    · have hfin := GoL.done Ho.out HR.out HB.out Hb.out Hd.out Hgo.out (by rw [List.drop_eq_nil_of_le (by rw [← HL.out]; omega)]; rfl)
      have Hfin := Lib.hid hfin
      clear hfin
      go_wp2_with fail
      go_ret
      exact Hfin.out

set_option maxHeartbeats 2000000 in
theorem spec_GoodsteinOrds (n : Int) (w : World) (hn0 : -9223372036854775808 ≤ n) (hn1 : n ≤ 9223372036854775807) :
    Calls Try.prog 55 #[.int .i64 n] w (GoPost w (T.goodOrds (T.goodRun n) 2)) := by
  obtain ⟨j0, hj, hy0, hy1, hy2⟩ := info_parts info_ints
  have hL0 : (w.alloc (.cells #[] 23)).ownsRow w.heap.size 23 1 (.slice (some ⟨w.heap.size, 0, none⟩) 0 0) 0 [] := World.ownsRow_lit w #[] 0 (Nat.le_refl _) (by simp [maxLen]) rfl
  have HL0 := Lib.hid hL0
  have HLb := Lib.hid ((Below.refl w.heap.size w).alloc (Nat.le_refl _) (.cells #[] 23))
  obtain ⟨wl, hwl⟩ : ∃ wl, wl = w.alloc (.cells #[] 23) := ⟨_, rfl⟩
  rw [← hwl] at HL0 HLb
  have k1 := Lib.hid (spec_GoodsteinRun n wl hn0 hn1)
  have hcnt := T.goodRun_cnt n
  have hmem := Lib.hid (fun x => T.goodRun_mem (n := n) (x := x))
  obtain ⟨run, hrun⟩ : ∃ run, run = T.goodRun n := ⟨_, rfl⟩
  rw [← hrun] at k1 hcnt hmem ⊢
  obtain ⟨L, hL⟩ : ∃ L, L = run.length := ⟨_, rfl⟩
  unfold IntPost at k1
  rw [← hL] at k1 hcnt
  have HL := Lib.hid hL
  have hwls := HLb.out.size
  clear hrun hL hL0
  go_enter Try.func55, Try.ntmps55
  go_upto_region 2 with fail
  rw [← hwl]
  clear hwl
  go_wp2_with fail
  refine (k1.out).mono ?_
  rintro ee w1 ⟨ar, cr, rfl, ho1, hb1⟩
  have hst : GoL w run ar L cr L (.slice (some ⟨w.heap.size, 0, none⟩) 0 0) (.int .i64 0) w1 :=
    ⟨0, _, 0, [], [], rfl, rfl, rfl, rfl, rfl, ownsRow_below' HL0.out hb1, RowsT.nil _ _, Blocks.nil _, Joins.ownsRow_le ho1 hwls, HLb.out.trans (hb1.mono hwls)⟩
  have Hst := Lib.hid hst
  clear ho1 hb1 hst
  go_wp2_with fail
  go_loopg [3, 5] L (fun gk v3 v5 wr => GoL w run ar L cr gk v3 v5 wr)
  case atStart => exact Hst.out
  case round =>
    obtain ⟨i, a, c, vs, done, rfl, hgk, rfl, hd, hgo, ho, hR, hB, hrn, hb⟩ := hrel
    have Hd := Lib.hid hd
    have Hgo := Lib.hid hgo
    have Ho := Lib.hid ho
    have HR := Lib.hid hR
    have HB := Lib.hid hB
    have Hrn := Lib.hid hrn
    have Hb := Lib.hid hb
    have hws := hb.size
    clear hd hgo ho hR hB hrn hb
    by_cases hlt : i < L
    · obtain ⟨t, ht⟩ : ∃ t, gk = t + 1 := ⟨gk - 1, by omega⟩
      subst ht
      obtain ⟨gr, c', hv⟩ := Joins.ownsRow_form Hrn.out (by omega)
      simp only [Value.slice.injEq] at hv
      obtain ⟨rfl, _, rfl⟩ := hv
      have hgr : gr < wr.heap.size := (Hrn.out.lt gr rfl).2
      have hir : i < run.length := by rw [← HL.out]; exact hlt
      obtain ⟨x, hx⟩ : ∃ x, x = run[i] := ⟨_, rfl⟩
      have hx9 := hmem.out x (by rw [hx]; exact List.getElem_mem hir)
      have hdr : run.drop i = x :: run.drop (i + 1) := by rw [hx]; exact List.drop_eq_getElem_cons hir
      have y0 : wr.cell? ⟨gr, i, none⟩ = some (.int .i64 x) := (Hrn.out.cellAt i (by omega)).trans (by rw [ints, List.getElem?_map, List.getElem?_eq_getElem hir, ← hx]; rfl)
      have Hdr := Lib.hid hdr
      have kg := Lib.hid (spec_OrdInBase x ((i : Int) + 2) wr (by omega) (by omega) (by omega) (by omega))
      have hcs := T.baseRow_cases x ((i : Int) + 2)
      have Hstop := Lib.hid (fun h => T.goodOrds_stop (x := x) (b := (i : Int) + 2) (xs := run.drop (i + 1)) h)
      have Hgoo := Lib.hid (fun h => T.goodOrds_go (x := x) (b := (i : Int) + 2) (xs := run.drop (i + 1)) h)
      have Henc := Lib.hid (fun h => T.baseRow_enc (x := x) (b := (i : Int) + 2) h)
      obtain ⟨r, hr⟩ : ∃ r, r = T.baseRow x ((i : Int) + 2) := ⟨_, rfl⟩
      rw [← hr] at kg hcs Hstop Hgoo Henc
      have hi60 : i < 60 := by omega
      clear hir hx hdr hr hx9
      rcases hcs with rfl | ⟨hv, hl⟩
      · have hfin : ∀ wz, wz.ownsRow w.heap.size 23 1 (.slice a i c) i vs → RowsT w.heap.size wz vs done → Blocks wz.heap.size vs → Below w.heap.size w wz → GoPostI w (T.goodOrds run 2) (.returned (.slice a i c)) wz :=
          fun wz h1 h2 h3 h4 => GoL.done h1 h2 h3 h4 Hd.out Hgo.out (by rw [Hdr.out]; exact Hstop.out rfl)
        have Hfin := Lib.hid hfin
        clear hfin
        go_wp2_with fail
        refine (kg.out).mono ?_
        rintro ee w2 ⟨aN, cN, rfl, _, hb2⟩
        have hf2 := (Hfin.out w2 (ownsRow_below' Ho.out hb2) (HR.out.below hb2) ⟨fun i' g' n' c' h => Nat.lt_of_lt_of_le (HB.out.1 i' g' n' c' h) hb2.size, HB.out.2⟩ (Hb.out.trans (hb2.mono hws))).weak
        have Hf2 := Lib.hid hf2
        clear hb2 hf2
        go_wp2_with fail
        go_ret
        exact Hf2.out
      · have hrne : r ≠ [] := fun h => by rw [h] at hl; simp at hl
        obtain ⟨hrg, henc, hvl⟩ := Henc.out hrne
        have hgo2 := Hgoo.out hrne
        obtain ⟨u, hu⟩ : ∃ u, u = T.ordB ((i : Int) + 2).toNat x.toNat := ⟨_, rfl⟩
        have hkl : ∀ wx, Calls Try.prog 88 #[.int .i64 x, .int .i64 ((i : Int) + 2)] wx (IntPost wx u.enc) := fun wx => by
          have h1 := l4Ord_any (x.toNat + 1) x.toNat ((i : Int) + 2).toNat wx (Nat.lt_succ_self _) (by omega) (by omega) (by omega)
          rw [Int.toNat_of_nonneg hrg.1, Int.toNat_of_nonneg (show 0 ≤ (i : Int) + 2 by omega), ← hu] at h1
          exact h1
        rw [← hu] at henc hgo2
        have Hnx := Lib.hid (show T.goodOrds run 2 = (done ++ [u]) ++ T.goodOrds (run.drop (i + 1)) (((i + 1 : Nat) : Int) + 2) by
          rw [Hgo.out, Hdr.out, hgo2, List.append_assoc, List.singleton_append, show (((i + 1 : Nat) : Int) + 2) = (i : Int) + 2 + 1 by omega])
        subst henc
        obtain ⟨ln, hln⟩ : ∃ ln, ln = u.enc.length := ⟨_, rfl⟩
        have Hkl := Lib.hid hkl
        unfold IntPost at kg Hkl
        rw [← hln] at kg hl Hkl
        have HLn := Lib.hid hln
        have hlp : (0 : Int) < (ln : Int) := by omega
        clear hv hrne hrg hgo2 hu hln hkl hvl
        go_wp2_with fail
        refine (kg.out).mono ?_
        rintro ee w2 ⟨aM, cM, rfl, _, hb2⟩
        have y2 : w2.cell? ⟨gr, i, none⟩ = some (.int .i64 x) := (hb2.cell (p := ⟨gr, i, none⟩) hgr).trans y0
        have Hb2 := Lib.hid hb2
        have hw2 := hb2.size
        clear hb2
        go_wp2_with fail
        refine (Hkl.out w2).mono ?_
        rintro ee w3 ⟨aN, cN, rfl, hoN, hb3⟩
        obtain ⟨g, c', hv⟩ := Joins.ownsRow_form hoN hl
        simp only [Value.slice.injEq] at hv
        obtain ⟨rfl, _, rfl⟩ := hv
        have hb13 := Hb2.out.trans (hb3.mono hw2)
        have HoN := Lib.hid hoN
        have Ho2 := Lib.hid (ownsRow_below' Ho.out hb13)
        have HR2 := Lib.hid (HR.out.below hb13)
        have Hrn2 := Lib.hid (ownsRow_below' Hrn.out hb13)
        have Hb3 := Lib.hid (Hb.out.trans (hb13.mono hws))
        have hw3 := Hb3.out.size
        have HB2 := Lib.hid (show Blocks w3.heap.size vs from ⟨fun i' g' n' c' h => Nat.lt_of_lt_of_le (HB.out.1 i' g' n' c' h) hb13.size, HB.out.2⟩)
        have hBb : ∀ (i' g' n' c' : Nat), vs[i']? = some (.slice (some ⟨g', 0, none⟩) n' c') → g' < w2.heap.size := fun i' g' n' c' h => Nat.lt_of_lt_of_le (HB.out.1 i' g' n' c' h) hw2
        have HBb := Lib.hid hBb
        clear hoN hb3 hb13 hBb
        go_wp2_with (first
          | (at_builtin; refine wpList_append_own_at _ rfl (.tmp 26) (.tmp 34) 48 rfl w.heap.size 23 j0 (.slice none 0 0) 1 24 Try.underlying48 hj hy0 hy1 hy2 rfl (by decide) _ i vs rfl (Ho2.out.alloc _) ⟨w3.heap.size, 0, none⟩ 1 1 [.slice (some ⟨g, 0, none⟩) ln cN] rfl rfl (cell_one_new _ _ _) (slice_one _ _ _) (by unfold maxLen; omega) (by omega) (by simp; omega) ?_; intro v3 w4 ho3 hg3 _ _; obtain ⟨a3, c3, rfl⟩ := own_shape ho3))
        have hfin := GoL.next Ho2.out HR2.out HB2.out Hrn2.out Hb3.out hgk Hd.out Hnx.out HLn.out w2.heap.size HBb.out (by omega) HoN.out ho3 hg3
        have Hfin := Lib.hid hfin
        clear ho3 hg3 hfin
        go_wp2_with fail
        go_roundg t
        case measure => omega
        case rel => exact Hfin.out
    · have hfin := (GoL.done Ho.out HR.out HB.out Hb.out Hd.out Hgo.out (by rw [List.drop_eq_nil_of_le (by rw [← HL.out]; omega)]; rfl)).weak
      have Hfin := Lib.hid hfin
      clear hfin
      go_wp2_with fail
      go_ret
      exact Hfin.out

end Go.Proofs.Ytnacndlfjlibmaa

/- GoodR -/
/- What FnGoodsteinOrds says, on rows. -/
namespace Go.Proofs.Ytnacndlfjlibmaa
namespace T

theorem goodOrds_get : ∀ (xs : List Int) (b : Int) (i : Nat) (t : T), (goodOrds xs b)[i]? = some t → ∃ x, xs[i]? = some x ∧ baseRow x (b + i) ≠ [] ∧ baseRow x (b + i) = t.enc := by
  intro xs
  induction xs with
  | nil => intro b i t h; simp [goodOrds] at h
  | cons y ys ih =>
    intro b i t h
    by_cases h0 : baseRow y b = []
    · rw [goodOrds_stop h0] at h; simp at h
    · rw [goodOrds_go h0] at h
      cases i with
      | zero =>
        simp only [List.getElem?_cons_zero, Option.some.injEq] at h
        subst h
        have e : b + ((0 : Nat) : Int) = b := by omega
        rw [e]
        exact ⟨y, rfl, h0, (baseRow_enc h0).2.1⟩
      | succ i =>
        rw [List.getElem?_cons_succ] at h
        obtain ⟨x, h1, h2, h3⟩ := ih (b + 1) i t h
        have e : b + 1 + (i : Int) = b + ((i + 1 : Nat) : Int) := by omega
        rw [e] at h2 h3
        exact ⟨x, by rw [List.getElem?_cons_succ]; exact h1, h2, h3⟩
/-- Each ordinal is less than the one before. -/
theorem goodOrds_chain {n : Int} {i : Nat} {s t : T} (hs : (goodOrds (goodRun n) 2)[i]? = some s) (ht : (goodOrds (goodRun n) 2)[i + 1]? = some t) : cmpRow t.enc s.enc = -1 := by
  obtain ⟨x, h1, h2, h3⟩ := goodOrds_get _ _ _ _ hs
  obtain ⟨y, k1, k2, k3⟩ := goodOrds_get _ _ _ _ ht
  obtain ⟨x', m1, m2, m3, _⟩ := goodRun_chain k1
  rw [h1] at m1
  cases m1
  have e1 : (2 : Int) + (i : Int) = (i : Int) + 2 := by omega
  have e2 : (2 : Int) + ((i + 1 : Nat) : Int) = (i : Int) + 2 + 1 := by omega
  rw [e1] at h2 h3
  rw [e2] at k2 k3
  rw [m2] at m3 k2 k3
  obtain ⟨_, f2, _⟩ := good_fall m3
  rcases f2 with f2 | f2
  · exact absurd f2 k2
  · rw [k3, h3] at f2; exact f2
theorem goodOrds_head {n : Int} {t : T} (h : (goodOrds (goodRun n) 2)[0]? = some t) : baseRow n 2 = t.enc := by
  obtain ⟨x, h1, h2, h3⟩ := goodOrds_get _ _ _ _ h
  have e : (2 : Int) + ((0 : Nat) : Int) = 2 := by omega
  rw [e] at h3
  by_cases hn : 0 ≤ n ∧ n ≤ 1000000000
  · rw [goodRun_head hn] at h1
    cases h1
    exact h3
  · rw [goodRun_none hn] at h1
    simp at h1

end T
end Go.Proofs.Ytnacndlfjlibmaa

/- DrawG -/
/- What the laws of chapter 4 draw. -/
namespace Go.Proofs.Ytnacndlfjlibmaa
open Go.RowKit

def CountPost (w : World) (g P : Nat) (e : Ending) (w' : World) : Prop :=
  ∃ v : Int, e = .returned (.int .i64 v) ∧ 0 ≤ v ∧ v ≤ 1000000000 ∧ RdOk w' g (P + 6) ∧ w.grownBy w' (some g)
def RootPost (w : World) (g P : Nat) (e : Ending) (w' : World) : Prop :=
  ∃ v : Int, e = .returned (.int .i64 v) ∧ -1 ≤ v ∧ v ≤ 99 ∧ RdOk w' g (P + 4) ∧ w.grownBy w' (some g)
theorem mul255 {x y : Int} (h1 : 0 ≤ x) (h2 : x < 256) (h3 : 0 ≤ y) (h4 : y < 256) : 0 ≤ x * y ∧ x * y ≤ 65025 := by
  refine ⟨Int.mul_nonneg h1 h3, ?_⟩
  have := Int.mul_le_mul (show x ≤ 255 by omega) (show y ≤ 255 by omega) h3 (by decide)
  omega
theorem mul255b {x y : Int} (h1 : 0 ≤ x) (h2 : x ≤ 65025) (h3 : 0 ≤ y) (h4 : y < 256) : 0 ≤ x * y ∧ x * y ≤ 16581375 := by
  refine ⟨Int.mul_nonneg h1 h3, ?_⟩
  have := Int.mul_le_mul (show x ≤ 65025 by omega) (show y ≤ 255 by omega) h3 (by decide)
  omega

set_option maxHeartbeats 4000000 in
theorem l20Count_any (g P : Nat) (w : World) (hP : P ≤ 80000000) (hrd : RdOk w g P) :
    Calls Try.prog 82 #[.pointer (some ⟨g, 0, none⟩)] w (CountPost w g P) := by
  have k1 := Lib.hid (pick_any g P 4 w (by omega) (by decide) (by decide) hrd)
  clear hrd
  go_enter Try.func82, Try.ntmps82
  go_wp2_with fail
  refine (k1.out).mono ?_
  rintro ee w1 ⟨x, rfl, hx, hr1, hg1⟩
  have hx0 := hx.1
  have hx1 := hx.2.1 (by decide)
  have hcs : x = 0 ∨ x = 1 ∨ x = 2 ∨ x = 3 := by omega
  have Hg1 := Lib.hid hg1
  have Hr1 := Lib.hid hr1
  clear hx hx0 hx1 hr1 hg1
  rcases hcs with rfl | rfl | rfl | rfl
  · have k2 := Lib.hid (pick_any g (P + 1) 20 w1 (by omega) (by decide) (by decide) Hr1.out)
    go_wp2_with fail
    refine (k2.out).mono ?_
    rintro ee w2 ⟨y, rfl, hy, hr2, hg2⟩
    have hy0 := hy.1
    have hy1 := hy.2.1 (by decide)
    have Hg2 := Lib.hid (grownBy_trans Hg1.out hg2)
    have Hr2 := Lib.hid hr2
    clear hy hr2 hg2
    go_wp2_with fail
    go_ret
    exact ⟨_, rfl, hy0, by omega, Hr2.out.mono (by omega), Hg2.out⟩
  · have k2 := Lib.hid (pick_any g (P + 1) 256 w1 (by omega) (by decide) (by decide) Hr1.out)
    go_wp2_with fail
    refine (k2.out).mono ?_
    rintro ee w2 ⟨y, rfl, hy, hr2, hg2⟩
    have hy0 := hy.1
    have hy1 := hy.2.1 (by decide)
    have Hg2 := Lib.hid (grownBy_trans Hg1.out hg2)
    have k3 := Lib.hid (pick_any g (P + 1 + 1) 256 w2 (by omega) (by decide) (by decide) hr2)
    clear hy hr2 hg2
    go_wp2_with fail
    refine (k3.out).mono ?_
    rintro ee w3 ⟨z, rfl, hz, hr3, hg3⟩
    have hz0 := hz.1
    have hz1 := hz.2.1 (by decide)
    have hm := mul255 hy0 hy1 hz0 hz1
    obtain ⟨m, hmm⟩ : ∃ m, m = y * z := ⟨_, rfl⟩
    rw [← hmm] at hm
    have hm0 := hm.1
    have hm1 := hm.2
    have q2 : IntKind.i64.wrap (y * z) = m := by rw [← hmm]; exact IntWalk.i64_in _ (by omega)
    have Hg3 := Lib.hid (grownBy_trans Hg2.out hg3)
    have Hr3 := Lib.hid hr3
    have HM := Lib.hid hmm
    clear hz hr3 hg3 hm hmm
    go_wp2_with fail
    go_ret
    exact ⟨_, rfl, by first | exact hm0 | (rw [← HM.out]; exact hm0), by first | omega | (rw [← HM.out]; omega), Hr3.out.mono (by omega), Hg3.out⟩
  · have k2 := Lib.hid (pick_any g (P + 1) 256 w1 (by omega) (by decide) (by decide) Hr1.out)
    go_wp2_with fail
    refine (k2.out).mono ?_
    rintro ee w2 ⟨y, rfl, hy, hr2, hg2⟩
    have hy0 := hy.1
    have hy1 := hy.2.1 (by decide)
    have Hg2 := Lib.hid (grownBy_trans Hg1.out hg2)
    have k3 := Lib.hid (pick_any g (P + 1 + 1) 256 w2 (by omega) (by decide) (by decide) hr2)
    clear hy hr2 hg2
    go_wp2_with fail
    refine (k3.out).mono ?_
    rintro ee w3 ⟨z, rfl, hz, hr3, hg3⟩
    have hz0 := hz.1
    have hz1 := hz.2.1 (by decide)
    have hm := mul255 hy0 hy1 hz0 hz1
    obtain ⟨m, hmm⟩ : ∃ m, m = y * z := ⟨_, rfl⟩
    rw [← hmm] at hm
    have hm0 := hm.1
    have hm1 := hm.2
    have q2 : IntKind.i64.wrap (y * z) = m := by rw [← hmm]; exact IntWalk.i64_in _ (by omega)
    have Hg3 := Lib.hid (grownBy_trans Hg2.out hg3)
    have k4 := Lib.hid (pick_any g (P + 1 + 1 + 1) 256 w3 (by omega) (by decide) (by decide) hr3)
    have HM := Lib.hid hmm
    clear hz hr3 hg3 hm hmm
    go_wp2_with fail
    refine (k4.out).mono ?_
    rintro ee w4 ⟨v, rfl, hv, hr4, hg4⟩
    have hv0 := hv.1
    have hv1 := hv.2.1 (by decide)
    have hn := mul255b hm0 hm1 hv0 hv1
    obtain ⟨n, hnn⟩ : ∃ n, n = m * v := ⟨_, rfl⟩
    rw [← hnn] at hn
    have hn0 := hn.1
    have hn1 := hn.2
    have q3 : IntKind.i64.wrap (m * v) = n := by rw [← hnn]; exact IntWalk.i64_in _ (by omega)
    have q3' : m * v = n := hnn.symm
    have Hg4 := Lib.hid (grownBy_trans Hg3.out hg4)
    have k5 := Lib.hid (pick_any g (P + 1 + 1 + 1 + 1) 256 w4 (by omega) (by decide) (by decide) hr4)
    clear hv hr4 hg4 hn hnn
    go_wp2_with fail
    refine (k5.out).mono ?_
    rintro ee w5 ⟨u, rfl, hu, hr5, hg5⟩
    have hu0 := hu.1
    have hu1 := hu.2.1 (by decide)
    have Hg5 := Lib.hid (grownBy_trans Hg4.out hg5)
    have Hr5 := Lib.hid hr5
    clear hu hr5 hg5
    go_wp2_with fail
    go_ret
    exact ⟨_, rfl, by omega, by omega, Hr5.out.mono (by omega), Hg5.out⟩
  · have k2 := Lib.hid (pick_any g (P + 1) 256 w1 (by omega) (by decide) (by decide) Hr1.out)
    go_wp2_with fail
    refine (k2.out).mono ?_
    rintro ee w2 ⟨y, rfl, hy, hr2, hg2⟩
    have hy0 := hy.1
    have hy1 := hy.2.1 (by decide)
    have Hg2 := Lib.hid (grownBy_trans Hg1.out hg2)
    have Hr2 := Lib.hid hr2
    clear hy hr2 hg2
    go_wp2_with fail
    go_ret
    exact ⟨_, rfl, hy0, by omega, Hr2.out.mono (by omega), Hg2.out⟩

set_option maxHeartbeats 4000000 in
theorem l20Root_any (g P : Nat) (w : World) (hP : P ≤ 80000000) (hrd : RdOk w g P) :
    Calls Try.prog 83 #[.pointer (some ⟨g, 0, none⟩)] w (RootPost w g P) := by
  have k1 := Lib.hid (pick_any g P 9 w (by omega) (by decide) (by decide) hrd)
  clear hrd
  go_enter Try.func83, Try.ntmps83
  go_wp2_with fail
  refine (k1.out).mono ?_
  rintro ee w1 ⟨x, rfl, hx, hr1, hg1⟩
  have hx0 := hx.1
  have hx1 := hx.2.1 (by decide)
  have Hg1 := Lib.hid hg1
  have k2 := Lib.hid (pick_any g (P + 1) 12 w1 (by omega) (by decide) (by decide) hr1)
  clear hx hr1 hg1
  go_wp2_with fail
  refine (k2.out).mono ?_
  rintro ee w2 ⟨y, rfl, hy, hr2, hg2⟩
  have hy0 := hy.1
  have hy1 := hy.2.1 (by decide)
  obtain ⟨d, hd⟩ : ∃ d, d = y / 11 := ⟨_, rfl⟩
  have q2 : y.tdiv 11 = d := by rw [hd]; exact Int.tdiv_eq_ediv_of_nonneg hy0
  have hds : d = 0 ∨ d = 1 := by omega
  have Hg2 := Lib.hid (grownBy_trans Hg1.out hg2)
  have k3 := Lib.hid (pick_any g (P + 1 + 1) 90 w2 (by omega) (by decide) (by decide) hr2)
  clear hy hr2 hg2 hd
  rcases hds with rfl | rfl
  · go_wp2_with fail
    refine (k3.out).mono ?_
    rintro ee w3 ⟨z, rfl, hz, hr3, hg3⟩
    have hz0 := hz.1
    have hz1 := hz.2.1 (by decide)
    have Hg3 := Lib.hid (grownBy_trans Hg2.out hg3)
    have k4 := Lib.hid (pick_any g (P + 1 + 1 + 1) 40 w3 (by omega) (by decide) (by decide) hr3)
    clear hz hr3 hg3
    go_wp2_with fail
    refine (k4.out).mono ?_
    rintro ee w4 ⟨v, rfl, hv, hr4, hg4⟩
    have hv0 := hv.1
    have hv1 := hv.2.1 (by decide)
    have Hg4 := Lib.hid (grownBy_trans Hg3.out hg4)
    have Hr4 := Lib.hid hr4
    have hd2 : 0 ≤ v / 39 := by omega
    have hd3 : v / 39 ≤ 1 := by omega
    have q4 : v.tdiv 39 = v / 39 := Int.tdiv_eq_ediv_of_nonneg hv0
    clear hv hr4 hg4
    go_wp2_with fail
    go_ret
    refine ⟨_, rfl, ?_, ?_, Hr4.out.mono (by omega), Hg4.out⟩
    · omega
    · omega
  · go_wp2_with fail
    refine (k3.out).mono ?_
    rintro ee w3 ⟨z, rfl, hz, hr3, hg3⟩
    have hz0 := hz.1
    have hz1 := hz.2.1 (by decide)
    have Hg3 := Lib.hid (grownBy_trans Hg2.out hg3)
    have k4 := Lib.hid (pick_any g (P + 1 + 1 + 1) 40 w3 (by omega) (by decide) (by decide) hr3)
    clear hz hr3 hg3
    go_wp2_with fail
    refine (k4.out).mono ?_
    rintro ee w4 ⟨v, rfl, hv, hr4, hg4⟩
    have hv0 := hv.1
    have hv1 := hv.2.1 (by decide)
    have Hg4 := Lib.hid (grownBy_trans Hg3.out hg4)
    have Hr4 := Lib.hid hr4
    have hd2 : 0 ≤ v / 39 := by omega
    have hd3 : v / 39 ≤ 1 := by omega
    have q4 : v.tdiv 39 = v / 39 := Int.tdiv_eq_ediv_of_nonneg hv0
    clear hv hr4 hg4
    go_wp2_with fail
    go_ret
    refine ⟨_, rfl, ?_, ?_, Hr4.out.mono (by omega), Hg4.out⟩
    · omega
    · omega


set_option maxHeartbeats 2000000 in
theorem drawOrdInBase_any (a : Option Addr) (len cap : Nat) (w : World) (h : By w a len cap) : Calls Try.prog 44 #[.slice a len cap] w fun e w' => ∃ x y : Int, e = .returned (.tuple #[.int .i64 x, .int .i64 y]) ∧ -99 ≤ x ∧ x ≤ 1000000000 ∧ -1 ≤ y ∧ y ≤ 99 ∧ Below w.heap.size w w' := by
  have k0 := Lib.hid (open_any a len cap w h)
  obtain ⟨g, hg⟩ : ∃ g, g = w.heap.size := ⟨_, rfl⟩
  rw [← hg] at k0
  have Hg := Lib.hid hg
  clear hg h
  go_enter Try.func44, Try.ntmps44
  go_wp2_with fail
  refine (k0.out).mono ?_
  rintro ee w1 ⟨rfl, hr1, hb1⟩
  have Hb1 := Lib.hid hb1
  clear hb1
  have k1 := Lib.hid (l20Count_any g (0) w1 (by decide) hr1)
  clear hr1
  go_wp2_with fail
  refine (k1.out).mono ?_
  rintro ee w2 ⟨x, rfl, hx0, hx1, hr2, hg2⟩
  have Hg2 := Lib.hid hg2
  have k2 := Lib.hid (pick_any g (0 + 6) 30 w2 (by decide) (by decide) (by decide) hr2)
  clear hg2 hr2
  go_wp2_with fail
  refine (k2.out).mono ?_
  rintro ee w3 ⟨u, rfl, hu, hr3, hg3⟩
  have hu0 := hu.1
  have hu1 := hu.2.1 (by decide)
  have hd2 : 0 ≤ u / 29 := by omega
  have hd3 : u / 29 ≤ 1 := by omega
  have q4 : u.tdiv 29 = u / 29 := Int.tdiv_eq_ediv_of_nonneg hu0
  have Hg3 := Lib.hid (grownBy_trans Hg2.out hg3)
  have k3 := Lib.hid (l20Root_any g (0 + 6 + 1) w3 (by decide) hr3)
  clear hu hr3 hg3
  go_wp2_with fail
  refine (k3.out).mono ?_
  rintro ee w4 ⟨y, rfl, hy0, hy1, hr4, hg4⟩
  have Hg4 := Lib.hid (grownBy_trans Hg3.out hg4)
  clear hr4 hg4
  go_wp2_with fail
  go_ret2
  have hs1 : g ≤ w1.heap.size := by have h1 := Hb1.out.size; have h2 := Hg.out; omega
  refine ⟨_, y, rfl, ?_, ?_, hy0, hy1, by rw [← Hg.out]; exact Hb1.out.grown Hg4.out hs1 (fun k e => by cases e; exact Nat.le_refl _)⟩
  · omega
  · omega

set_option maxHeartbeats 2000000 in
theorem drawGoodsteinRun_any (a : Option Addr) (len cap : Nat) (w : World) (h : By w a len cap) : Calls Try.prog 91 #[.slice a len cap] w fun e w' => ∃ x : Int, e = .returned (.int .i64 x) ∧ -20 ≤ x ∧ x ≤ 1000000000 ∧ Below w.heap.size w w' := by
  have k0 := Lib.hid (open_any a len cap w h)
  obtain ⟨g, hg⟩ : ∃ g, g = w.heap.size := ⟨_, rfl⟩
  rw [← hg] at k0
  have Hg := Lib.hid hg
  clear hg h
  go_enter Try.func91, Try.ntmps91
  go_wp2_with fail
  refine (k0.out).mono ?_
  rintro ee w1 ⟨rfl, hr1, hb1⟩
  have Hb1 := Lib.hid hb1
  clear hb1
  have k1 := Lib.hid (l20Count_any g (0) w1 (by decide) hr1)
  clear hr1
  go_wp2_with fail
  refine (k1.out).mono ?_
  rintro ee w2 ⟨x, rfl, hx0, hx1, hr2, hg2⟩
  have Hg2 := Lib.hid hg2
  have k2 := Lib.hid (pick_any g (0 + 6) 30 w2 (by decide) (by decide) (by decide) hr2)
  clear hg2 hr2
  go_wp2_with fail
  refine (k2.out).mono ?_
  rintro ee w3 ⟨u, rfl, hu, hr3, hg3⟩
  have hu0 := hu.1
  have hu1 := hu.2.1 (by decide)
  have hd2 : 0 ≤ u / 29 := by omega
  have hd3 : u / 29 ≤ 1 := by omega
  have q4 : u.tdiv 29 = u / 29 := Int.tdiv_eq_ediv_of_nonneg hu0
  have Hg3 := Lib.hid (grownBy_trans Hg2.out hg3)
  clear hu hr3 hg3
  go_wp2_with fail
  go_ret
  have hs1 : g ≤ w1.heap.size := by have h1 := Hb1.out.size; have h2 := Hg.out; omega
  refine ⟨_, rfl, ?_, ?_, by rw [← Hg.out]; exact Hb1.out.grown Hg3.out hs1 (fun k e => by cases e; exact Nat.le_refl _)⟩
  · omega
  · omega

end Go.Proofs.Ytnacndlfjlibmaa

/- LFnGoodsteinOrds -/
/- FnGoodsteinOrds: the walk of the law. -/
namespace Go.Proofs.Ytnacndlfjlibmaa
open Go.RowKit

theorem drawGoodsteinOrds_any (a : Option Addr) (len cap : Nat) (w : World) (h : By w a len cap) : Calls Try.prog 52 #[.slice a len cap] w fun e w' => ∃ x : Int, e = .returned (.int .i64 x) ∧ -20 ≤ x ∧ x ≤ 1000000000 ∧ Below w.heap.size w w' := by
  have k0 := Lib.hid (drawGoodsteinRun_any a len cap w h)
  clear h
  go_enter Try.func52, Try.ntmps52
  go_wp2_with fail
  refine (k0.out).mono ?_
  rintro ee w1 ⟨x, rfl, hx0, hx1, hb⟩
  have Hb := Lib.hid hb
  clear hb
  go_wp2_with fail
  go_ret
  exact ⟨x, rfl, hx0, hx1, Hb.out⟩

theorem row_pick {w : World} {B B' n c k : Nat} {a : Option Addr} {vs : List Value} {ts : List T} {t : T} (ho : w.ownsRow B' 23 1 (.slice a n c) n vs) (hr : RowsT B w vs ts) (hn : n = ts.length) (ht : ts[k]? = some t) :
    ∃ g r cr, a = some ⟨g, 0, none⟩ ∧ g < w.heap.size ∧ w.cell? ⟨g, k, none⟩ = some (.slice (some ⟨r, 0, none⟩) t.enc.length cr) ∧ Sl w (some ⟨r, 0, none⟩) t.enc.length cr t.enc := by
  obtain ⟨g, r, cr, h1, h2, h3, _, h5⟩ := row_pickI (t := t.enc) (k := k) ho hr (by rw [List.length_map]; exact hn) (by rw [List.getElem?_map, ht]; rfl)
  exact ⟨g, r, cr, h1, h2, h3, Sl.of_own h5⟩

theorem T.goodOrds_cnt : ∀ (xs : List Int) (b : Int), (T.goodOrds xs b).length ≤ xs.length ∧ ∀ t ∈ T.goodOrds xs b, t.enc.length ≤ 60 := by
  intro xs
  induction xs with
  | nil => intro b; exact ⟨Nat.le_refl _, fun t h => by cases h⟩
  | cons x xs ih =>
    intro b
    by_cases h : T.baseRow x b = []
    · rw [T.goodOrds_stop h]; exact ⟨Nat.zero_le _, fun t h => by cases h⟩
    · rw [T.goodOrds_go h]
      obtain ⟨h1, h2⟩ := ih (b + 1)
      refine ⟨by simp only [List.length_cons]; omega, fun t ht => ?_⟩
      rcases List.mem_cons.1 ht with rfl | ht
      · exact (T.vldB_true.1 (T.baseRow_enc h).2.2).1
      · exact h2 t ht

set_option maxHeartbeats 4000000 in
theorem sameLists_same (a1 a2 : Option Addr) (n c1 c2 B1 B2 : Nat) (vs us : List Value) (ts : List T) (w : World) (h1 : w.ownsRow B1 23 1 (.slice a1 n c1) n vs) (r1 : RowsT B1 w vs ts)
    (h2 : w.ownsRow B2 23 1 (.slice a2 n c2) n us) (r2 : RowsT B2 w us ts) (hn : n = ts.length) (hn3 : n ≤ 3000) (hv : ∀ t ∈ ts, t.enc.length ≤ 60) :
    Calls Try.prog 54 #[.slice a1 n c1, .slice a2 n c2] w fun e w' => e = .returned (.bool true) ∧ Below w.heap.size w w' := by
  have H1 := Lib.hid h1
  have H2 := Lib.hid h2
  have R1 := Lib.hid r1
  have R2 := Lib.hid r2
  have HN := Lib.hid hn
  have HV := Lib.hid hv
  clear h1 h2 r1 r2 hn hv
  go_enter Try.func54, Try.ntmps54
  go_wp2_with fail
  go_loopw [5] (fun i wr => ∃ (k : Nat), k ≤ n ∧ i = .int .i64 k ∧ Below w.heap.size w wr) (fun i _ => n - (intOf i).toNat)
  case atStart => exact ⟨0, Nat.zero_le _, rfl, Below.refl _ _⟩
  case round =>
    obtain ⟨k, hk, rfl, hbel⟩ := hrel
    by_cases hlt : k < n
    · have hkt : k < ts.length := by rw [← HN.out]; exact hlt
      obtain ⟨t, ht⟩ : ∃ t, ts[k]? = some t := ⟨ts[k], List.getElem?_eq_getElem hkt⟩
      have hl60 := HV.out t (List.mem_of_getElem? ht)
      obtain ⟨g1, p1, q1, rfl, hg1, hc1, hs1⟩ := row_pick (ownsRow_below' H1.out hbel) (R1.out.below hbel) HN.out ht
      obtain ⟨g2, p2, q2, rfl, hg2, hc2, hs2⟩ := row_pick (ownsRow_below' H2.out hbel) (R2.out.below hbel) HN.out ht
      have hd0 : Below wr.heap.size wr wr.drew := (Below.refl _ _).drew
      have ks := Lib.hid (sameInts_any (some ⟨p1, 0, none⟩) (some ⟨p2, 0, none⟩) t.enc.length q1 t.enc.length q2 t.enc t.enc wr.drew (by omega) (hs1.below hd0) (hs2.below hd0))
      rw [eqB_refl] at ks
      have Hbel := Lib.hid hbel
      clear ht hkt hl60 hbel hs1 hs2
      go_wp2_with fail
      go_region_held3 (fun w' => w'.cell? ⟨g1, k, none⟩ = some (.slice (some ⟨p1, 0, none⟩) t.enc.length q1) ∧ w'.cell? ⟨g2, k, none⟩ = some (.slice (some ⟨p2, 0, none⟩) t.enc.length q2)) (first | go_keep | exact ⟨kS0, kS1⟩)
        ((first
          | (go_at_call 24; (with_reducible refine (ks.out).mono ?_); rintro ee w2 ⟨rfl, hb2⟩; have hb2' : Below wr.heap.size wr w2 := hd0.trans hb2; have kS0 := (hb2'.cell (p := ⟨g1, k, none⟩) hg1).trans hc1; have kS1 := (hb2'.cell (p := ⟨g2, k, none⟩) hg2).trans hc2)
          | fail))
      have HbA := Lib.hid (Hbel.out.trans (hb2'.mono Hbel.out.size))
      clear hb2 hb2' kS0 kS1
      go_wp2_with fail
      go_roundw
      case rel => exact ⟨k + 1, by omega, by go_num, HbA.out⟩
      case measure => simp [intOf]; omega
    · obtain rfl : k = n := by omega
      go_wp2_with fail
      go_ret
      exact ⟨rfl, hbel⟩

set_option maxHeartbeats 4000000 in
theorem fnGoodsteinOrds_walk (a : Option Addr) (len cap : Nat) (w : World) (h : By w a len cap) :
    Calls Try.prog 13 #[.slice a len cap] w fun e w' => e = .returned (.bool true) ∧ Below w.heap.size w w' := by
  have hlm : len ≤ 9223372036854775807 := by have := h.1; have := h.2.1; unfold maxLen at this; omega
  by_cases hbig : 1048576 < len
  · clear h
    go_enter Try.func13, Try.ntmps13
    go_wp2_with fail
    go_ret
    exact ⟨rfl, Below.refl _ _⟩
  have k0 := Lib.hid (drawGoodsteinOrds_any a len cap w h)
  clear h
  go_enter Try.func13, Try.ntmps13
  go_wp2_with fail
  refine (k0.out).mono ?_
  rintro ee w1 ⟨N, rfl, hN0, hN1, hb0⟩
  have Hb0 := Lib.hid hb0
  clear hb0
  have k1 := Lib.hid (impl_GoodsteinOrds N w1 (by omega) (by omega))
  have k2 := Lib.hid (fun wx => spec_GoodsteinOrds N wx (by omega) (by omega))
  have k4 := Lib.hid (fun wx => impl_GoodsteinRun N wx (by omega) (by omega))
  have kb := Lib.hid (fun wx => impl_OrdInBase N 2 wx (by omega) (by omega) (by omega) (by omega))
  obtain ⟨hle, hV⟩ := T.goodOrds_cnt (T.goodRun N) 2
  have hcnt := T.goodRun_cnt N
  have hch := fun i s t => T.goodOrds_chain (n := N) (i := i) (s := s) (t := t)
  have hhd := fun t => T.goodOrds_head (n := N) (t := t)
  obtain ⟨ls, hls⟩ : ∃ ls, ls = T.goodOrds (T.goodRun N) 2 := ⟨_, rfl⟩
  rw [← hls] at k1 k2 hle hV hch hhd
  obtain ⟨r, hr⟩ : ∃ r, r = T.goodRun N := ⟨_, rfl⟩
  rw [← hr] at k4 hle hcnt
  obtain ⟨n, hn⟩ : ∃ n, n = ls.length := ⟨_, rfl⟩
  obtain ⟨L, hL⟩ : ∃ L, L = r.length := ⟨_, rfl⟩
  unfold GoPostI at k1
  unfold GoPost at k2
  unfold IntPost at k4 kb
  rw [← hn] at k1 k2 hle
  rw [← hL] at k4 hle hcnt
  have Hn := Lib.hid hn
  have HV := Lib.hid hV
  have Hch := Lib.hid hch
  have Hhd := Lib.hid hhd
  have hlei : (n : Int) ≤ (L : Int) := by omega
  clear hls hr hn hL hV hch hhd
  go_wp2_with fail
  refine (k1.out).mono ?_
  rintro ee w2 ⟨a2, n2, c2, vs, rfl, hn2, ho2, hr2, hb2, _, _⟩
  subst hn2
  have Ho2 := Lib.hid ho2
  have Hr2 := Lib.hid hr2
  have Hb2 := Lib.hid (Hb0.out.trans (hb2.mono Hb0.out.size))
  clear ho2 hb2 hr2
  go_wp2_with fail
  refine (k2.out _).mono ?_
  rintro ee w3 ⟨a3, n3, c3, us, rfl, hn3, ho3, hr3, hb3⟩
  subst hn3
  have Ho3 := Lib.hid (ownsRow_below' Ho2.out hb3)
  have Hr3 := Lib.hid (Hr2.out.below hb3)
  have Hb3 := Lib.hid (Hb2.out.trans (hb3.mono Hb2.out.size))
  have k3 := Lib.hid (sameLists_same a2 a3 n3 c2 c3 _ _ vs us ls w3 Ho3.out Hr3.out ho3 hr3 Hn.out (by omega) HV.out)
  clear ho3 hb3 hr3
  go_wp2_with fail
  refine (k3.out).mono ?_
  rintro ee w4 ⟨rfl, hb4⟩
  have Ho4 := Lib.hid (ownsRow_below' Ho3.out hb4)
  have Hr4 := Lib.hid (Hr3.out.below hb4)
  have Hb4 := Lib.hid (Hb3.out.trans (hb4.mono Hb3.out.size))
  clear hb4
  go_wp2_with fail
  refine (k4.out _).mono ?_
  rintro ee w5 ⟨a5, c5, rfl, _, hb5⟩
  have Ho5 := Lib.hid (ownsRow_below' Ho4.out hb5)
  have Hr5 := Lib.hid (Hr4.out.below hb5)
  have Hb5 := Lib.hid (Hb4.out.trans (hb5.mono Hb4.out.size))
  clear hb5
  go_wp2_with fail
  go_loopw [6] (fun v6 wr => ∃ j : Nat, (j + 1 ≤ n3 ∨ j = 0) ∧ v6 = .int .i64 ((j : Int) + 1) ∧ Below w5.heap.size w5 wr) (fun v6 _ => n3 - (intOf v6).toNat)
  case atStart => exact ⟨0, .inr rfl, rfl, Below.refl _ _⟩
  case round =>
    obtain ⟨j, hj, rfl, hbr⟩ := hrel
    have Hbr := Lib.hid hbr
    have hn60 : n3 ≤ 60 := by omega
    by_cases hlt : j + 1 < n3
    · have hj1 : j + 1 < ls.length := by rw [← Hn.out]; exact hlt
      obtain ⟨t, ht⟩ : ∃ t, ls[j + 1]? = some t := ⟨ls[j + 1], List.getElem?_eq_getElem hj1⟩
      obtain ⟨s, hs⟩ : ∃ s, ls[j]? = some s := ⟨ls[j], List.getElem?_eq_getElem (by omega)⟩
      obtain ⟨g1, p1, q1, rfl, hg1, hc1, hs1⟩ := row_pick (ownsRow_below' Ho5.out hbr) (Hr5.out.below hbr) Hn.out ht
      obtain ⟨g2, p2, q2, hge, hg2, hc2, hs2⟩ := row_pick (ownsRow_below' Ho5.out hbr) (Hr5.out.below hbr) Hn.out hs
      simp only [Option.some.injEq, Addr.mk.injEq, and_true] at hge
      subst hge
      have hd0 : Below wr.heap.size wr wr.drew := (Below.refl _ _).drew
      have ks := Lib.hid (impl_OrdCompare (some ⟨p1, 0, none⟩) (some ⟨p2, 0, none⟩) t.enc.length q1 s.enc.length q2 t.enc s.enc wr.drew (hs1.below hd0) (hs2.below hd0))
      rw [Hch.out j s t hs ht] at ks
      have hI0 : (0 : Int) ≤ (j : Int) := by omega
      have hI1 : (j : Int) < (n3 : Int) := by omega
      have hI2 : (j : Int) + 1 < (n3 : Int) := by omega
      have hI3 : (j : Int) ≤ (n3 : Int) := by omega
      have hI4 : (0 : Int) ≤ (j : Int) + 1 := by omega
      have hI5 : (j : Int) + 1 ≤ (n3 : Int) := by omega
      have hw3 : IntKind.i64.wrap ((j : Int) + 1) = (j : Int) + 1 := IntWalk.i64_in _ (by omega)
      have hw2 : (j : Int) + 1 - 1 = (j : Int) := by omega
      have hw4 : IntKind.i64.wrap (j : Int) = (j : Int) := IntWalk.i64_in _ (by omega)
      clear hj1 ht hs hs1 hs2 hbr
      go_wp2_with fail
      go_region_held3 (fun w' => w'.cell? ⟨g1, j + 1, none⟩ = some (.slice (some ⟨p1, 0, none⟩) t.enc.length q1) ∧ w'.cell? ⟨g1, j, none⟩ = some (.slice (some ⟨p2, 0, none⟩) s.enc.length q2)) (first | go_keep | exact ⟨kS0, kS1⟩)
        ((first
          | (go_at_call 21; (with_reducible refine (ks.out).mono ?_); rintro ee w6 ⟨rfl, hb6⟩; have hb6' : Below wr.heap.size wr w6 := hd0.trans hb6; have kS0 := (hb6'.cell (p := ⟨g1, j + 1, none⟩) hg1).trans hc1; have kS1 := (hb6'.cell (p := ⟨g1, j, none⟩) hg1).trans hc2)
          | fail))
      have HbA := Lib.hid (Hbr.out.trans (hb6'.mono Hbr.out.size))
      clear hb6 hb6' kS0 kS1 hw2 hw3 hw4
      go_wp2_with fail
      go_roundw
      case rel => exact ⟨j + 1, .inl (by omega), by go_num, HbA.out⟩
      case measure => simp [intOf]; omega
    · have hlti : ¬ (j : Int) + 1 < (n3 : Int) := by omega
      have hd0 : Below wr.heap.size wr wr.drew := (Below.refl _ _).drew
      have Hw := Lib.hid (Hb5.out.trans (hbr.mono Hb5.out.size))
      by_cases hz : n3 = 0
      · have ka := Lib.hid (alive_any wr.drew)
        have hzb : (((n3 : Nat) : Int) == 0) = true := by rw [hz]; rfl
        clear hbr hj hz
        go_wp2_with fail
        refine wp_region_any (by kernel_rfl) ?_
        try (change wpAny _ _ _ _ _ _ _ (World.drew _))
        refine wpAny_take (oi := ⟨some 38, _, _, _, _, _⟩) (i := 0) (v := .slice a2 n3 c2) rfl (by kernel_rfl) (by kernel_rfl) (by kernel_rfl) (fun _ _ _ h => h) (Or.inl ⟨by kernel_rfl, fun w => by go_simp⟩) ?_
        simp only [Act.put, List.setIfInBounds_toArray, List.set_cons_zero, List.set_cons_succ]
        refine wpAny_take (oi := ⟨some 39, _, _, _, _, _⟩) (i := 1) (v := .int .i64 n3) rfl (by kernel_rfl) (by kernel_rfl) (by kernel_rfl) (fun _ _ _ h => h) (Or.inl ⟨by kernel_rfl, fun w => by go_simp⟩) ?_
        simp only [Act.put, List.setIfInBounds_toArray, List.set_cons_zero, List.set_cons_succ]
        refine wpAny_take (oi := ⟨some 40, _, _, _, _, _⟩) (i := 2) (v := .slice a5 L c5) rfl (by kernel_rfl) (by kernel_rfl) (by kernel_rfl) (fun _ _ _ h => h) (Or.inl ⟨by kernel_rfl, fun w => by go_simp⟩) ?_
        simp only [Act.put, List.setIfInBounds_toArray, List.set_cons_zero, List.set_cons_succ]
        refine wpAny_take (oi := ⟨some 41, _, _, _, _, _⟩) (i := 3) (v := .int .i64 L) rfl (by kernel_rfl) (by kernel_rfl) (by kernel_rfl) (fun _ _ _ h => h) (Or.inl ⟨by kernel_rfl, fun w => by go_simp⟩) ?_
        simp only [Act.put, List.setIfInBounds_toArray, List.set_cons_zero, List.set_cons_succ]
        refine wpAny_take (oi := ⟨some 42, _, _, _, _, _⟩) (i := 4) (v := .bool true) rfl (by kernel_rfl) (by kernel_rfl) (by kernel_rfl) (fun _ _ _ h => h) (Or.inl ⟨by kernel_rfl, fun w => by go_simp⟩) ?_
        simp only [Act.put, List.setIfInBounds_toArray, List.set_cons_zero, List.set_cons_succ]
        refine wpAny_take (oi := ⟨some 43, _, _, _, _, _⟩) (i := 5) (v := .bool true) rfl (by kernel_rfl) (by kernel_rfl) (by kernel_rfl) (fun _ _ _ h => h) (Or.inl ⟨by kernel_rfl, fun w => by go_simp⟩) ?_
        simp only [Act.put, List.setIfInBounds_toArray, List.set_cons_zero, List.set_cons_succ]
        refine wpAny_take (oi := ⟨some 44, _, _, _, _, _⟩) (i := 6) (v := .slice a2 n3 c2) rfl (by kernel_rfl) (by kernel_rfl) (by kernel_rfl) (fun _ _ _ h => h) (Or.inl ⟨by kernel_rfl, fun w => by go_simp⟩) ?_
        simp only [Act.put, List.setIfInBounds_toArray, List.set_cons_zero, List.set_cons_succ]
        refine wpAny_take (oi := ⟨some 45, _, _, _, _, _⟩) (i := 7) (v := .int .i64 n3) rfl (by kernel_rfl) (by kernel_rfl) (by kernel_rfl) (fun _ _ _ h => h) (Or.inl ⟨by kernel_rfl, fun w => by go_simp⟩) ?_
        simp only [Act.put, List.setIfInBounds_toArray, List.set_cons_zero, List.set_cons_succ]
        refine wpAny_take (oi := ⟨some 46, _, _, _, _, _⟩) (i := 8) (v := .bool true) rfl (by kernel_rfl) (by kernel_rfl) (by kernel_rfl) (fun _ _ _ h => h) (Or.inl ⟨by kernel_rfl, fun w => by go_simp⟩) ?_
        simp only [Act.put, List.setIfInBounds_toArray, List.set_cons_zero, List.set_cons_succ]
        refine wpAny_take (oi := ⟨some 47, _, _, _, _, _⟩) (i := 9) (v := .bool true) rfl (by kernel_rfl) (by kernel_rfl) (by kernel_rfl) (fun _ _ _ h => h) (Or.inl ⟨by kernel_rfl, fun w => by go_simp⟩) ?_
        simp only [Act.put, List.setIfInBounds_toArray, List.set_cons_zero, List.set_cons_succ]
        refine wpAny_take (oi := ⟨some 48, _, _, _, _, _⟩) (i := 10) (v := undef) rfl (by kernel_rfl) (by kernel_rfl) (by kernel_rfl) (fun _ _ _ h => h) (Or.inr ⟨by kernel_rfl, rfl⟩) ?_
        simp only [Act.put, List.setIfInBounds_toArray, List.set_cons_zero, List.set_cons_succ]
        refine wpAny_take (oi := ⟨some 49, _, _, _, _, _⟩) (i := 11) (v := undef) rfl (by kernel_rfl) (by kernel_rfl) (by kernel_rfl) (fun _ _ _ h => h) (Or.inr ⟨by kernel_rfl, rfl⟩) ?_
        simp only [Act.put, List.setIfInBounds_toArray, List.set_cons_zero, List.set_cons_succ]
        refine wpAny_take (oi := ⟨some 51, _, _, _, _, _⟩) (i := 13) (v := undef) rfl (by kernel_rfl) (by kernel_rfl) (by kernel_rfl) (fun _ _ _ h => h) (Or.inr ⟨by kernel_rfl, rfl⟩) ?_
        simp only [Act.put, List.setIfInBounds_toArray, List.set_cons_zero, List.set_cons_succ]
        refine wpAny_take (oi := ⟨some 50, _, _, _, _, _⟩) (i := 12) (v := undef) rfl (by kernel_rfl) (by kernel_rfl) (by kernel_rfl) (fun _ _ _ h => h) (Or.inr ⟨by kernel_rfl, rfl⟩) ?_
        simp only [Act.put, List.setIfInBounds_toArray, List.set_cons_zero, List.set_cons_succ]
        refine wpAny_take (oi := ⟨some 52, _, _, _, _, _⟩) (i := 14) (v := undef) rfl (by kernel_rfl) (by kernel_rfl) (by kernel_rfl) (fun _ _ _ h => h) (Or.inr ⟨by kernel_rfl, rfl⟩) ?_
        simp only [Act.put, List.setIfInBounds_toArray, List.set_cons_zero, List.set_cons_succ]
        refine wpAny_take (oi := ⟨some 53, _, _, _, _, _⟩) (i := 15) (v := undef) rfl (by kernel_rfl) (by kernel_rfl) (by kernel_rfl) (fun _ _ _ h => h) (Or.inr ⟨by kernel_rfl, rfl⟩) ?_
        simp only [Act.put, List.setIfInBounds_toArray, List.set_cons_zero, List.set_cons_succ]
        refine wpAny_take (oi := ⟨some 54, _, _, _, _, _⟩) (i := 16) (v := .bool true) rfl (by kernel_rfl) (by kernel_rfl) (by kernel_rfl) (fun _ _ _ h => h) (Or.inl ⟨by kernel_rfl, fun w => by go_simp⟩) ?_
        simp only [Act.put, List.setIfInBounds_toArray, List.set_cons_zero, List.set_cons_succ]
        refine wpAny_take (oi := ⟨some 55, _, _, _, _, _⟩) (i := 17) (v := .bool true) rfl (by kernel_rfl) (by kernel_rfl) (by kernel_rfl) (fun _ _ _ h => h) (Or.inl ⟨by kernel_rfl, fun w => by go_simp⟩) ?_
        simp only [Act.put, List.setIfInBounds_toArray, List.set_cons_zero, List.set_cons_succ]
        refine wpAny_take (oi := ⟨some 56, _, _, _, _, _⟩) (i := 18) (v := .bool true) rfl (by kernel_rfl) (by kernel_rfl) (by kernel_rfl) (fun _ _ _ h => h) (Or.inl ⟨by kernel_rfl, fun w => by go_simp⟩) ?_
        simp only [Act.put, List.setIfInBounds_toArray, List.set_cons_zero, List.set_cons_succ]
        refine wpAny_ready (rs := [19]) (by kernel_rfl) (by simp) (AllReady.cons rfl (fun K hK => ?_) AllReady.nil)
        go_simp
        go_wp2_with (first
          | (go_at_call 17; (with_reducible refine (ka.out).mono ?_); rintro ee w6 ⟨rfl, hb6⟩; have hb6' : Below wr.heap.size wr w6 := hd0.trans hb6)
          | fail)
        refine wpAny_take (oi := ⟨some 58, _, _, _, _, _⟩) (i := 20) (v := .bool true) rfl (by kernel_rfl) (by kernel_rfl) (by kernel_rfl) (fun _ _ _ h => h) (Or.inl ⟨by kernel_rfl, fun w => by go_simp⟩) ?_
        simp only [Act.put, List.setIfInBounds_toArray, List.set_cons_zero, List.set_cons_succ]
        refine wpAny_take (oi := ⟨some 2, _, _, _, _, _⟩) (i := 21) (v := .bool true) rfl (by kernel_rfl) (by kernel_rfl) (by kernel_rfl) (fun _ _ _ h => h) (Or.inl ⟨by kernel_rfl, fun w => by go_simp⟩) ?_
        simp only [Act.put, List.setIfInBounds_toArray, List.set_cons_zero, List.set_cons_succ]
        refine wpAny_done (by kernel_rfl) ?_ _
        have HbA := Lib.hid (Hw.out.trans (hb6'.mono Hw.out.size))
        clear hb6 hb6'
        go_wp2_with fail
        go_ret
        exact ⟨rfl, HbA.out⟩
      · have h0 : 0 < ls.length := by rw [← Hn.out]; omega
        obtain ⟨t, ht⟩ : ∃ t, ls[0]? = some t := ⟨ls[0], List.getElem?_eq_getElem h0⟩
        obtain ⟨g1, p1, q1, rfl, hg1, hc1, hs1⟩ := row_pick (ownsRow_below' Ho5.out hbr) (Hr5.out.below hbr) Hn.out ht
        have hl60 := HV.out t (List.mem_of_getElem? ht)
        have hbase := Hhd.out t ht
        have kg := Lib.hid (kb.out wr.drew)
        rw [hbase] at kg
        have HS1 := Lib.hid hs1
        have hzb : (((n3 : Nat) : Int) == 0) = false := by simpa using hz
        have hzi : (0 : Int) < (n3 : Int) := by omega
        clear h0 ht hs1 hbase hbr hj
        go_wp2_with fail
        refine wp_region_any (by kernel_rfl) ?_
        try (change wpAny _ _ _ _ _ _ _ (World.drew _))
        refine wpAny_take (oi := ⟨some 38, _, _, _, _, _⟩) (i := 0) (v := .slice (some ⟨g1, 0, none⟩) n3 c2) rfl (by kernel_rfl) (by kernel_rfl) (by kernel_rfl) (fun _ _ _ h => h) (Or.inl ⟨by kernel_rfl, fun w => by go_simp⟩) ?_
        simp only [Act.put, List.setIfInBounds_toArray, List.set_cons_zero, List.set_cons_succ]
        refine wpAny_take (oi := ⟨some 39, _, _, _, _, _⟩) (i := 1) (v := .int .i64 n3) rfl (by kernel_rfl) (by kernel_rfl) (by kernel_rfl) (fun _ _ _ h => h) (Or.inl ⟨by kernel_rfl, fun w => by go_simp⟩) ?_
        simp only [Act.put, List.setIfInBounds_toArray, List.set_cons_zero, List.set_cons_succ]
        refine wpAny_take (oi := ⟨some 40, _, _, _, _, _⟩) (i := 2) (v := .slice a5 L c5) rfl (by kernel_rfl) (by kernel_rfl) (by kernel_rfl) (fun _ _ _ h => h) (Or.inl ⟨by kernel_rfl, fun w => by go_simp⟩) ?_
        simp only [Act.put, List.setIfInBounds_toArray, List.set_cons_zero, List.set_cons_succ]
        refine wpAny_take (oi := ⟨some 41, _, _, _, _, _⟩) (i := 3) (v := .int .i64 L) rfl (by kernel_rfl) (by kernel_rfl) (by kernel_rfl) (fun _ _ _ h => h) (Or.inl ⟨by kernel_rfl, fun w => by go_simp⟩) ?_
        simp only [Act.put, List.setIfInBounds_toArray, List.set_cons_zero, List.set_cons_succ]
        refine wpAny_take (oi := ⟨some 42, _, _, _, _, _⟩) (i := 4) (v := .bool true) rfl (by kernel_rfl) (by kernel_rfl) (by kernel_rfl) (fun _ _ _ h => h) (Or.inl ⟨by kernel_rfl, fun w => by go_simp⟩) ?_
        simp only [Act.put, List.setIfInBounds_toArray, List.set_cons_zero, List.set_cons_succ]
        refine wpAny_take (oi := ⟨some 43, _, _, _, _, _⟩) (i := 5) (v := .bool true) rfl (by kernel_rfl) (by kernel_rfl) (by kernel_rfl) (fun _ _ _ h => h) (Or.inl ⟨by kernel_rfl, fun w => by go_simp⟩) ?_
        simp only [Act.put, List.setIfInBounds_toArray, List.set_cons_zero, List.set_cons_succ]
        refine wpAny_take (oi := ⟨some 44, _, _, _, _, _⟩) (i := 6) (v := .slice (some ⟨g1, 0, none⟩) n3 c2) rfl (by kernel_rfl) (by kernel_rfl) (by kernel_rfl) (fun _ _ _ h => h) (Or.inl ⟨by kernel_rfl, fun w => by go_simp⟩) ?_
        simp only [Act.put, List.setIfInBounds_toArray, List.set_cons_zero, List.set_cons_succ]
        refine wpAny_take (oi := ⟨some 45, _, _, _, _, _⟩) (i := 7) (v := .int .i64 n3) rfl (by kernel_rfl) (by kernel_rfl) (by kernel_rfl) (fun _ _ _ h => h) (Or.inl ⟨by kernel_rfl, fun w => by go_simp⟩) ?_
        simp only [Act.put, List.setIfInBounds_toArray, List.set_cons_zero, List.set_cons_succ]
        refine wpAny_take (oi := ⟨some 46, _, _, _, _, _⟩) (i := 8) (v := .bool false) rfl (by kernel_rfl) (by kernel_rfl) (by kernel_rfl) (fun _ _ _ h => h) (Or.inl ⟨by kernel_rfl, fun w => by go_simp⟩) ?_
        simp only [Act.put, List.setIfInBounds_toArray, List.set_cons_zero, List.set_cons_succ]
        refine wpAny_take (oi := ⟨some 47, _, _, _, _, _⟩) (i := 9) (v := .bool false) rfl (by kernel_rfl) (by kernel_rfl) (by kernel_rfl) (fun _ _ _ h => h) (Or.inl ⟨by kernel_rfl, fun w => by go_simp⟩) ?_
        simp only [Act.put, List.setIfInBounds_toArray, List.set_cons_zero, List.set_cons_succ]
        refine wpAny_take (oi := ⟨some 48, _, _, _, _, _⟩) (i := 10) (v := .slice (some ⟨g1, 0, none⟩) n3 c2) rfl (by kernel_rfl) (by kernel_rfl) (by kernel_rfl) (fun _ _ _ h => h) (Or.inl ⟨by kernel_rfl, fun w => by go_simp⟩) ?_
        simp only [Act.put, List.setIfInBounds_toArray, List.set_cons_zero, List.set_cons_succ]
        refine wpAny_take (oi := ⟨some 49, _, _, _, _, _⟩) (i := 11) (v := .pointer (some ⟨g1, 0, none⟩)) rfl (by kernel_rfl) (by kernel_rfl) (by kernel_rfl) (fun _ _ _ h => h) (Or.inl ⟨by kernel_rfl, fun w => by go_simp⟩) ?_
        simp only [Act.put, List.setIfInBounds_toArray, List.set_cons_zero, List.set_cons_succ]
        refine wpAny_take (oi := ⟨some 51, _, _, _, _, _⟩) (i := 13) (v := .int .i64 N) rfl (by kernel_rfl) (by kernel_rfl) (by kernel_rfl) (fun _ _ _ h => h) (Or.inl ⟨by kernel_rfl, fun w => by go_simp⟩) ?_
        simp only [Act.put, List.setIfInBounds_toArray, List.set_cons_zero, List.set_cons_succ]
        have hcd : wr.drew.cell? ⟨g1, 0, none⟩ = some (.slice (some ⟨p1, 0, none⟩) t.enc.length q1) := hc1
        refine wpAny_ready (rs := [12, 14]) (by kernel_rfl) (by simp) (AllReady.cons rfl (fun K hK => ?_) (AllReady.cons rfl (fun K hK => ?_) AllReady.nil))
        · go_simp
          refine hK _ _ ?_
          clear hK K
          refine wpAny_ready (rs := [14]) (by kernel_rfl) (by simp) (AllReady.cons rfl (fun K hK => ?_) AllReady.nil)
          go_simp
          go_wp2_with (first
            | (go_at_call 45; (with_reducible refine (kg.out).mono ?_); rintro ee w6 ⟨aN, cN, rfl, hoN, hb6⟩; have hb6' : Below wr.heap.size wr w6 := hd0.trans hb6; have kS0 := (hb6'.cell (p := ⟨g1, 0, none⟩) hg1).trans hc1; have ks := Lib.hid (sameInts_any (some ⟨p1, 0, none⟩) aN t.enc.length q1 t.enc.length cN t.enc t.enc w6 (by omega) (HS1.out.below hb6') (Sl.of_own hoN)); rw [eqB_refl] at ks)
            | fail)
          refine wpAny_ready (rs := [15]) (by kernel_rfl) (by simp) (AllReady.cons rfl (fun K hK => ?_) AllReady.nil)
          go_simp
          go_wp2_with (first
            | (go_at_call 24; (with_reducible refine (ks.out).mono ?_); rintro ee w7 ⟨rfl, hb7⟩; have hb7' : Below wr.heap.size wr w7 := hb6'.trans (hb7.mono hb6'.size); have ka := Lib.hid (alive_any w7))
            | fail)
          refine wpAny_take (oi := ⟨some 54, _, _, _, _, _⟩) (i := 16) (v := .bool true) rfl (by kernel_rfl) (by kernel_rfl) (by kernel_rfl) (fun _ _ _ h => h) (Or.inl ⟨by kernel_rfl, fun w => by go_simp⟩) ?_
          simp only [Act.put, List.setIfInBounds_toArray, List.set_cons_zero, List.set_cons_succ]
          refine wpAny_take (oi := ⟨some 55, _, _, _, _, _⟩) (i := 17) (v := .bool true) rfl (by kernel_rfl) (by kernel_rfl) (by kernel_rfl) (fun _ _ _ h => h) (Or.inl ⟨by kernel_rfl, fun w => by go_simp⟩) ?_
          simp only [Act.put, List.setIfInBounds_toArray, List.set_cons_zero, List.set_cons_succ]
          refine wpAny_take (oi := ⟨some 56, _, _, _, _, _⟩) (i := 18) (v := .bool true) rfl (by kernel_rfl) (by kernel_rfl) (by kernel_rfl) (fun _ _ _ h => h) (Or.inl ⟨by kernel_rfl, fun w => by go_simp⟩) ?_
          simp only [Act.put, List.setIfInBounds_toArray, List.set_cons_zero, List.set_cons_succ]
          refine wpAny_ready (rs := [19]) (by kernel_rfl) (by simp) (AllReady.cons rfl (fun K hK => ?_) AllReady.nil)
          go_simp
          go_wp2_with (first
            | (go_at_call 17; (with_reducible refine (ka.out).mono ?_); rintro ee w8 ⟨rfl, hb8⟩; have hb8' : Below wr.heap.size wr w8 := hb7'.trans (hb8.mono hb7'.size))
            | fail)
          refine wpAny_take (oi := ⟨some 58, _, _, _, _, _⟩) (i := 20) (v := .bool true) rfl (by kernel_rfl) (by kernel_rfl) (by kernel_rfl) (fun _ _ _ h => h) (Or.inl ⟨by kernel_rfl, fun w => by go_simp⟩) ?_
          simp only [Act.put, List.setIfInBounds_toArray, List.set_cons_zero, List.set_cons_succ]
          refine wpAny_take (oi := ⟨some 2, _, _, _, _, _⟩) (i := 21) (v := .bool true) rfl (by kernel_rfl) (by kernel_rfl) (by kernel_rfl) (fun _ _ _ h => h) (Or.inl ⟨by kernel_rfl, fun w => by go_simp⟩) ?_
          simp only [Act.put, List.setIfInBounds_toArray, List.set_cons_zero, List.set_cons_succ]
          refine wpAny_done (by kernel_rfl) ?_ _
          have HbA := Lib.hid (Hw.out.trans (hb8'.mono Hw.out.size))
          clear hb6 hb6' hb7 hb7' hb8 hb8' kS0
          go_wp2_with fail
          go_ret
          exact ⟨rfl, HbA.out⟩
        · go_simp
          go_wp2_with (first
            | (go_at_call 45; (with_reducible refine (kg.out).mono ?_); rintro ee w6 ⟨aN, cN, rfl, hoN, hb6⟩; have hb6' : Below wr.heap.size wr w6 := hd0.trans hb6; have kS0 := (hb6'.cell (p := ⟨g1, 0, none⟩) hg1).trans hc1; have ks := Lib.hid (sameInts_any (some ⟨p1, 0, none⟩) aN t.enc.length q1 t.enc.length cN t.enc t.enc w6 (by omega) (HS1.out.below hb6') (Sl.of_own hoN)); rw [eqB_refl] at ks)
            | fail)
          refine wpAny_ready (rs := [12]) (by kernel_rfl) (by simp) (AllReady.cons rfl (fun K hK => ?_) AllReady.nil)
          go_simp
          refine hK _ _ ?_
          clear hK K
          refine wpAny_ready (rs := [15]) (by kernel_rfl) (by simp) (AllReady.cons rfl (fun K hK => ?_) AllReady.nil)
          go_simp
          go_wp2_with (first
            | (go_at_call 24; (with_reducible refine (ks.out).mono ?_); rintro ee w7 ⟨rfl, hb7⟩; have hb7' : Below wr.heap.size wr w7 := hb6'.trans (hb7.mono hb6'.size); have ka := Lib.hid (alive_any w7))
            | fail)
          refine wpAny_take (oi := ⟨some 54, _, _, _, _, _⟩) (i := 16) (v := .bool true) rfl (by kernel_rfl) (by kernel_rfl) (by kernel_rfl) (fun _ _ _ h => h) (Or.inl ⟨by kernel_rfl, fun w => by go_simp⟩) ?_
          simp only [Act.put, List.setIfInBounds_toArray, List.set_cons_zero, List.set_cons_succ]
          refine wpAny_take (oi := ⟨some 55, _, _, _, _, _⟩) (i := 17) (v := .bool true) rfl (by kernel_rfl) (by kernel_rfl) (by kernel_rfl) (fun _ _ _ h => h) (Or.inl ⟨by kernel_rfl, fun w => by go_simp⟩) ?_
          simp only [Act.put, List.setIfInBounds_toArray, List.set_cons_zero, List.set_cons_succ]
          refine wpAny_take (oi := ⟨some 56, _, _, _, _, _⟩) (i := 18) (v := .bool true) rfl (by kernel_rfl) (by kernel_rfl) (by kernel_rfl) (fun _ _ _ h => h) (Or.inl ⟨by kernel_rfl, fun w => by go_simp⟩) ?_
          simp only [Act.put, List.setIfInBounds_toArray, List.set_cons_zero, List.set_cons_succ]
          refine wpAny_ready (rs := [19]) (by kernel_rfl) (by simp) (AllReady.cons rfl (fun K hK => ?_) AllReady.nil)
          go_simp
          go_wp2_with (first
            | (go_at_call 17; (with_reducible refine (ka.out).mono ?_); rintro ee w8 ⟨rfl, hb8⟩; have hb8' : Below wr.heap.size wr w8 := hb7'.trans (hb8.mono hb7'.size))
            | fail)
          refine wpAny_take (oi := ⟨some 58, _, _, _, _, _⟩) (i := 20) (v := .bool true) rfl (by kernel_rfl) (by kernel_rfl) (by kernel_rfl) (fun _ _ _ h => h) (Or.inl ⟨by kernel_rfl, fun w => by go_simp⟩) ?_
          simp only [Act.put, List.setIfInBounds_toArray, List.set_cons_zero, List.set_cons_succ]
          refine wpAny_take (oi := ⟨some 2, _, _, _, _, _⟩) (i := 21) (v := .bool true) rfl (by kernel_rfl) (by kernel_rfl) (by kernel_rfl) (fun _ _ _ h => h) (Or.inl ⟨by kernel_rfl, fun w => by go_simp⟩) ?_
          simp only [Act.put, List.setIfInBounds_toArray, List.set_cons_zero, List.set_cons_succ]
          refine wpAny_done (by kernel_rfl) ?_ _
          have HbA := Lib.hid (Hw.out.trans (hb8'.mono Hw.out.size))
          clear hb6 hb6' hb7 hb7' hb8 hb8' kS0
          go_wp2_with fail
          go_ret
          exact ⟨rfl, HbA.out⟩

end Go.Proofs.Ytnacndlfjlibmaa
