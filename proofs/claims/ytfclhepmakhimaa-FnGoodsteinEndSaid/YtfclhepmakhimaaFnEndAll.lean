/- FnEndAll: one text out of PlainM, GoodL, GoodQ, GoodE, DrawG, LFnGoodsteinEnd. -/
import Derived.Test.YtfclhepmakhimaaGoodN
import Derived.Test.YtfclhepmakhimaaBaseV
import Derived.Test.YtfclhepmakhimaaDraw0
/- PlainM -/
/- The numbers that digits are in the next base. -/
namespace Go.Proofs.Ytfclhepmakhimaa
set_option maxRecDepth 100000
namespace T

def rd (b n : Nat) : Nat := readD (b + 1) (digs b n)
theorem rd_z (b : Nat) : rd b 0 = 0 := by rw [rd, digs_z]; rfl
theorem rd_eq {b : Nat} (hb : 2 ≤ b) (n : Nat) : rd b n = n % b + (b + 1) * rd b (n / b) := by
  rcases Nat.eq_zero_or_pos n with rfl | hn
  · rw [Nat.zero_mod, Nat.zero_div, rd_z]; rfl
  · rw [rd, digs_c hb hn]; rfl
theorem rd_lin {b : Nat} (hb : 2 ≤ b) : ∀ k n, n < b ^ (k + 1) → 2 ^ k * rd b n ≤ 3 ^ k * n := by
  intro k
  induction k with
  | zero =>
    intro n h
    have h1 : n < b := by simpa using h
    rw [rd_eq hb, Nat.div_eq_of_lt h1, rd_z, Nat.mod_eq_of_lt h1]
    simp
  | succ k ih =>
    intro n h
    have h1 := ih (n / b) ((Nat.div_lt_iff_lt_mul (by omega)).2 (by rw [← Nat.pow_succ]; exact h))
    have h2 : 2 ^ k ≤ 3 ^ k := Nat.pow_le_pow_left (by omega) k
    have h3 := Nat.div_add_mod n b
    rw [rd_eq hb]
    obtain ⟨X, hX⟩ : ∃ X, X = 2 ^ k := ⟨_, rfl⟩
    obtain ⟨Y, hY⟩ : ∃ Y, Y = 3 ^ k := ⟨_, rfl⟩
    obtain ⟨m, hm⟩ : ∃ m, m = n / b := ⟨_, rfl⟩
    obtain ⟨d, hd⟩ : ∃ d, d = n % b := ⟨_, rfl⟩
    rw [Nat.pow_succ, Nat.pow_succ, ← hX, ← hY, ← hm, ← hd]
    rw [← hX, ← hY, ← hm] at h1
    rw [← hX, ← hY] at h2
    rw [← hm, ← hd] at h3
    obtain ⟨r, hr⟩ : ∃ r, r = rd b m := ⟨_, rfl⟩
    rw [← hr] at h1 ⊢
    have h4 : X * 2 * d ≤ Y * 3 * d := Nat.mul_le_mul_right d (by omega)
    have h5 : (2 * (b + 1)) * (X * r) ≤ (3 * b) * (Y * m) := Nat.mul_le_mul (by omega) h1
    have h6 : X * 2 * ((b + 1) * r) = (2 * (b + 1)) * (X * r) := by simp only [Nat.mul_assoc, Nat.mul_comm, Nat.mul_left_comm]
    have h7 : Y * 3 * (b * m) = (3 * b) * (Y * m) := by simp only [Nat.mul_assoc, Nat.mul_comm, Nat.mul_left_comm]
    rw [← h3, Nat.mul_add, Nat.mul_add, h6, h7]
    omega
theorem rd_bound {b n : Nat} (hb : 2 ≤ b) (hn : n ≤ 1000000000) : rd b n ≤ 200000000000000 := by
  have h := rd_lin hb 29 n (big_pow hb hn)
  have h1 : 3 ^ 29 * n ≤ 3 ^ 29 * 1000000000 := Nat.mul_le_mul_left _ hn
  have h2 : (2 : Nat) ^ 29 = 536870912 := by decide
  have h3 : (3 : Nat) ^ 29 = 68630377364883 := by decide
  rw [h2] at h
  rw [h3] at h h1
  omega
theorem rd_pow {b : Nat} (hb : 2 ≤ b) : ∀ t, rd b (b ^ t) = (b + 1) ^ t := by
  intro t
  induction t with
  | zero => rw [Nat.pow_zero, Nat.pow_zero, rd_eq hb, Nat.div_eq_of_lt (by omega), rd_z, Nat.mod_eq_of_lt (by omega), Nat.mul_zero]
  | succ t ih => rw [rd_eq hb, Nat.pow_succ, Nat.mul_mod_left, Nat.mul_div_cancel _ (by omega), ih, Nat.pow_succ, Nat.mul_comm, Nat.zero_add]
theorem pow_bound {b t : Nat} (hb : 2 ≤ b) (h : b ^ t ≤ 1000000000) : (b + 1) ^ t ≤ 200000000000000 := by
  rw [← rd_pow hb]; exact rd_bound hb h
theorem mod7 : ∀ x, x < 7 → ∀ y, y < 7 → x * y % 7 = 0 → x = 0 ∨ y = 0 := by decide
theorem pow7 {B : Nat} (h : B % 7 ≠ 0) : ∀ k, B ^ k % 7 ≠ 0 := by
  intro k
  induction k with
  | zero => simp
  | succ k ih =>
    intro h1
    rw [Nat.pow_succ, Nat.mul_mod] at h1
    rcases mod7 _ (Nat.mod_lt _ (by omega)) _ (Nat.mod_lt _ (by omega)) h1 with h2 | h2
    · exact ih h2
    · exact h h2
/-- The number behind the greatest number is no power of a base. -/
theorem pow_ne {B k : Nat} (hB : B ≤ 91) : B ^ k ≠ 1000000001 := by
  intro h
  by_cases h7 : B % 7 = 0
  · obtain ⟨c, hc⟩ : ∃ c, B = 7 * c := ⟨B / 7, by omega⟩
    rcases k with _ | _ | k
    · simp at h
    · simp at h; omega
    · rw [Nat.pow_succ, Nat.pow_succ, hc] at h
      have h2 : (7 * c) ^ k * (7 * c) * (7 * c) = 49 * ((7 * c) ^ k * (c * c)) := by
        rw [show (49 : Nat) = 7 * 7 from rfl]; simp only [Nat.mul_assoc, Nat.mul_comm, Nat.mul_left_comm]
      rw [h2] at h
      omega
  · exact pow7 h7 k (by rw [h])

theorem plainI_in {b n : Nat} (h1 : 1 ≤ n) (h2 : n ≤ 1000000000) (h3 : 2 ≤ b) (h4 : b ≤ 89) : plainI (n : Int) (b : Int) = if (rd b n : Int) - 1 ≤ 1000000000 then (rd b n : Int) - 1 else -1 := by
  rw [plainI]
  show (if 1 ≤ (n : Int) ∧ (n : Int) ≤ 1000000000 ∧ 2 ≤ (b : Int) ∧ (b : Int) ≤ 89 ∧ (rd b n : Int) - 1 ≤ 1000000000 then (rd b n : Int) - 1 else -1) = _
  by_cases h : (rd b n : Int) - 1 ≤ 1000000000
  · rw [if_pos ⟨by omega, by omega, by omega, by omega, h⟩, if_pos h]
  · rw [if_neg (fun k => h k.2.2.2.2), if_neg h]
theorem plainI_out {n b : Int} (h : ¬ ((1 ≤ n ∧ n ≤ 1000000000) ∧ 2 ≤ b ∧ b ≤ 89)) : plainI n b = -1 := by
  rw [plainI, if_neg (fun k => h ⟨⟨k.1, k.2.1⟩, k.2.2.1, k.2.2.2.1⟩)]
theorem rd_step {b n t : Nat} (hb : 2 ≤ b) : rd b (n / b ^ t) = n / b ^ t % b + (b + 1) * rd b (n / b ^ (t + 1)) := by
  rw [rd_eq hb, Nat.div_div_eq_div_mul, ← Nat.pow_succ]

end T
end Go.Proofs.Ytfclhepmakhimaa

/- GoodL -/
/- What the drawn laws of chapter 4 say, on rows. -/
namespace Go.Proofs.Ytfclhepmakhimaa
set_option maxRecDepth 100000
namespace T

theorem base_some {n b : Int} (h : baseRow n b ≠ []) : ∃ (N B : Nat), n = N ∧ b = B ∧ N ≤ 1000000000 ∧ 2 ≤ B ∧ B ≤ 90 ∧ baseRow n b = (ordB B N).enc ∧ vldB (ordB B N).enc = true := by
  unfold baseRow at h ⊢
  split at h
  · rename_i hc
    rw [if_pos hc]
    rw [fit] at h ⊢
    split at h
    · rename_i hv
      rw [if_pos hv]
      exact ⟨n.toNat, b.toNat, by omega, by omega, by omega, by omega, by omega, rfl, hv⟩
    · exact absurd rfl h
  · exact absurd rfl h
theorem ordB_props {B N : Nat} (hB : 2 ≤ B) (hB2 : B ≤ 90) : (ordB B N).Nf ∧ (ordB B N).most < B ∧ (ordB B N).slow B = N :=
  ⟨ordB_nf hB (by omega) (N + 1) N (by omega), ordB_most hB (N + 1) N (by omega), ordB_slow hB (N + 1) N (by omega)⟩
theorem baseRow_of {t : T} {B : Nat} (hB : 2 ≤ B) (hB2 : B ≤ 90) (ht : vldB t.enc = true) (hm : t.most < B) (hs : t.slow B ≤ 1000000000) : baseRow (t.slow B : Int) (B : Int) = t.enc := by
  obtain ⟨h1, u, h2, h3⟩ := vldB_true.1 ht
  have hu : t.Nf := by
    have e : of t.enc = of u.enc := by first | rw [h2] | rw [← h2]
    rw [of_enc, of_enc] at e
    rw [e]; exact h3
  rw [baseRow_in hs hB hB2, ordB_of_slow hB (by omega) hu hm, fit, if_pos ht]
theorem slowRow_enc {t : T} {v : Nat} (h : vldB t.enc = true) (h1 : 1 ≤ v) (h2 : v ≤ 99) : slowRow t.enc (v : Int) = slowI v t := by
  rw [slowRow, if_pos ⟨h, by omega, by omega⟩, of_enc]; rfl
theorem mostRow_enc {t : T} (h : vldB t.enc = true) : mostRow t.enc = t.most := by rw [mostRow, if_pos h, of_enc]
theorem slowI_in {b : Nat} {t : T} (h : t.slow b ≤ 1000000000) : slowI b t = (t.slow b : Int) := if_pos h

theorem base_slow {n b : Int} (h : baseRow n b ≠ []) : slowRow (baseRow n b) b = n := by
  obtain ⟨N, B, rfl, rfl, h1, h2, h3, h4, h5⟩ := base_some h
  obtain ⟨p1, p2, p3⟩ := ordB_props (N := N) h2 h3
  rw [h4, slowRow_enc h5 (by omega) (by omega), slowI_in (by omega), p3]
theorem base_ok {n b : Int} (h : baseRow n b ≠ []) : vldB (baseRow n b) = true ∧ baseOk (baseRow n b) b = true := by
  obtain ⟨N, B, rfl, rfl, h1, h2, h3, h4, h5⟩ := base_some h
  obtain ⟨p1, p2, p3⟩ := ordB_props (N := N) h2 h3
  rw [h4, baseOk, h5, mostRow_enc h5, decide_eq_true p2, decide_eq_true (by omega)]
  exact ⟨rfl, rfl⟩
theorem base_cmp {n m b : Int} (h : baseRow n b ≠ []) (h' : baseRow m b ≠ []) : cmpRow (baseRow n b) (baseRow m b) = if n < m then -1 else if m < n then 1 else 0 := by
  obtain ⟨N, B, rfl, rfl, h1, h2, h3, h4, h5⟩ := base_some h
  obtain ⟨M, B', rfl, hb, k1, k2, k3, k4, k5⟩ := base_some h'
  obtain rfl : B = B' := by omega
  rw [h4, k4, cmpRow_val h5 k5, of_enc, of_enc]
  rcases Nat.lt_trichotomy N M with hlt | rfl | hgt
  · rw [if_pos (by omega)]; exact ordB_lt h2 (M + 1) M (by omega) N hlt
  · rw [if_neg (by omega), if_neg (by omega)]; exact cmp_refl _
  · rw [if_neg (by omega), if_pos (by omega), cmp_swap, ordB_lt h2 (N + 1) N (by omega) M hgt]; rfl

theorem baseOk_some {xs : List Int} {b : Int} (h : baseOk xs b = true) : ∃ (t : T) (B : Nat), xs = t.enc ∧ b = B ∧ 2 ≤ B ∧ B ≤ 90 ∧ vldB t.enc = true ∧ t.most < B := by
  rw [baseOk, Bool.and_eq_true, Bool.and_eq_true, decide_eq_true_iff, decide_eq_true_iff] at h
  obtain ⟨h1, h2, h3⟩ := h
  obtain ⟨_, t, h5, _⟩ := vldB_true.1 h1
  have h6 : xs = t.enc := by first | exact h5 | exact h5.symm
  subst h6
  rw [mostRow_enc h1] at h3
  exact ⟨t, b.toNat, rfl, by omega, by omega, by omega, h1, by omega⟩
theorem baseOk_base {xs : List Int} {b : Int} (h : baseOk xs b = true) : slowRow xs b < 0 ∨ baseRow (slowRow xs b) b = xs := by
  obtain ⟨t, B, rfl, rfl, h2, h3, h4, h5⟩ := baseOk_some h
  rw [slowRow_enc h4 (by omega) (by omega)]
  by_cases hs : t.slow B ≤ 1000000000
  · right; rw [slowI_in hs]; exact baseRow_of h2 h3 h4 h5 hs
  · left; rw [slowI, if_neg hs]; decide
theorem baseOk_next {xs : List Int} {b : Int} (h : baseOk xs b = true) (hb : b ≠ 90) : baseOk xs (b + 1) = true := by
  obtain ⟨t, B, rfl, rfl, h2, h3, h4, h5⟩ := baseOk_some h
  rw [baseOk, h4, mostRow_enc h4, decide_eq_true (by omega), decide_eq_true (by omega)]; rfl

theorem change_some {n a b : Int} (h : 0 ≤ changeI n a b) : baseRow n a ≠ [] ∧ 2 ≤ b ∧ b ≤ 90 ∧ slowRow (baseRow n a) b = changeI n a b := by
  rw [changeI] at h ⊢
  split at h
  · rename_i hb
    refine ⟨fun h0 => ?_, hb.1, hb.2, (if_pos hb).symm⟩
    rw [h0] at h
    have h1 := (slowRow_some h).1
    obtain ⟨_, t, h5, _⟩ := vldB_true.1 h1
    first | exact absurd h5 (enc_ne t) | exact absurd h5.symm (enc_ne t)
  · omega
theorem change_same {n a : Int} (h : baseRow n a ≠ []) : changeI n a a = n := by
  obtain ⟨N, B, rfl, rfl, h1, h2, h3, h4, h5⟩ := base_some h
  rw [changeI, if_pos ⟨by omega, by omega⟩]; exact base_slow h
theorem change_up {n a b : Int} (h : 0 ≤ changeI n a b) (hab : a ≤ b) : n ≤ changeI n a b ∧ baseRow (changeI n a b) b = baseRow n a := by
  obtain ⟨g1, g2, g3, g4⟩ := change_some h
  rw [← g4] at h ⊢
  obtain ⟨N, A, rfl, rfl, h1, h2, h3, h4, h5⟩ := base_some g1
  obtain ⟨p1, p2, p3⟩ := ordB_props (N := N) h2 h3
  obtain ⟨B, rfl⟩ := Int.eq_ofNat_of_zero_le (show 0 ≤ b by omega)
  rw [h4] at h ⊢
  have e := slowRow_enc h5 (show 1 ≤ B by omega) (show B ≤ 99 by omega)
  rw [e] at h ⊢
  by_cases hs : (ordB A N).slow B ≤ 1000000000
  · rw [slowI_in hs]
    have hu := slow_up (show 1 ≤ A by omega) (show A ≤ B by omega) (ordB A N)
    exact ⟨by omega, baseRow_of (by omega) (by omega) h5 (by omega) hs⟩
  · rw [slowI, if_neg hs] at h; omega

theorem slow_strict {b n : Nat} (hb : 2 ≤ b) (hn : b ≤ n) : n + 1 ≤ (ordB b n).slow (b + 1) := by
  obtain ⟨t, h1, h2, h3, h4, h5, h6, h7, h8⟩ := top_ex hb (show 0 < n by omega)
  rw [ordB_eq hb, dig_c (ordB b) hb h1 h2, slow, Int.toNat_natCast, ← ordB_eq hb]
  have ht : t ≠ 0 := by
    intro h0
    subst h0
    rw [Nat.zero_add, Nat.pow_one] at h2
    omega
  have s1 := ordB_slow hb (t + 1) t (by omega)
  have s2 := slow_up (show 1 ≤ b by omega) (show b ≤ b + 1 by omega) (ordB b t)
  have s3 := ordB_slow hb (n % b ^ t + 1) (n % b ^ t) (by omega)
  have s4 := slow_up (show 1 ≤ b by omega) (show b ≤ b + 1 by omega) (ordB b (n % b ^ t))
  have p1 : b ^ t < (b + 1) ^ t := Nat.pow_lt_pow_left (by omega) ht
  have p2 : (b + 1) ^ t ≤ (b + 1) ^ (ordB b t).slow (b + 1) := Nat.pow_le_pow_right (by omega) (by omega)
  have p3 : n / b ^ t * (b ^ t + 1) ≤ n / b ^ t * (b + 1) ^ (ordB b t).slow (b + 1) := Nat.mul_le_mul_left _ (by omega)
  rw [Nat.mul_add, Nat.mul_one] at p3
  omega

theorem good_some {n b : Int} (h : 0 ≤ goodI n b) : 1 ≤ n ∧ 2 ≤ b ∧ b ≤ 89 ∧ changeI n b (b + 1) = goodI n b + 1 := by
  rw [goodI] at h ⊢
  split at h
  · rename_i hc
    rw [if_pos hc]
    exact ⟨hc.1, hc.2.1, hc.2.2.1, by omega⟩
  · omega
theorem good_fall {n b : Int} (h : 0 ≤ goodI n b) : baseRow n b ≠ [] ∧ (baseRow (goodI n b) (b + 1) = [] ∨ cmpRow (baseRow (goodI n b) (b + 1)) (baseRow n b) = -1) ∧ (b ≤ n → n ≤ goodI n b) := by
  obtain ⟨hn, hb1, hb2, hc⟩ := good_some h
  have hc0 : 0 ≤ changeI n b (b + 1) := by omega
  obtain ⟨g1, g2, g3, g4⟩ := change_some hc0
  obtain ⟨_, hback⟩ := change_up hc0 (by omega)
  rw [hc] at hback g4
  refine ⟨g1, ?_, fun hbn => ?_⟩
  · by_cases he : baseRow (goodI n b) (b + 1) = []
    · exact .inl he
    · right
      have hne : baseRow (goodI n b + 1) (b + 1) ≠ [] := by rw [hback]; exact g1
      have h1 := base_cmp he hne
      rw [if_pos (by omega), hback] at h1
      exact h1
  · obtain ⟨N, B, rfl, rfl, h1, h2, h3, h4, h5⟩ := base_some g1
    have h6 := slow_strict h2 (show B ≤ N by omega)
    have e := slowRow_enc h5 (show 1 ≤ B + 1 by omega) (show B + 1 ≤ 99 by omega)
    rw [h4, show ((B : Int) + 1) = ((B + 1 : Nat) : Int) by omega, e] at g4
    rw [show ((B : Int) + 1) = ((B + 1 : Nat) : Int) by omega] at *
    by_cases hs : (ordB B N).slow (B + 1) ≤ 1000000000
    · rw [slowI_in hs] at g4; omega
    · rw [slowI, if_neg hs] at g4; omega

end T
end Go.Proofs.Ytfclhepmakhimaa

/- GoodQ -/
/- What the drawn laws say of Goodstein sequences. -/
namespace Go.Proofs.Ytfclhepmakhimaa
set_option maxRecDepth 100000
namespace T

theorem goods_chain : ∀ (k : Nat) (n b : Int) (i : Nat) (y : Int), (n :: goods k n b)[i + 1]? = some y → ∃ x, (n :: goods k n b)[i]? = some x ∧ y = goodI x (b + i) ∧ 0 ≤ y ∧ x ≠ 0 := by
  intro k
  induction k with
  | zero => intro n b i y h; simp [goods] at h
  | succ k ih =>
    intro n b i y h
    rcases goodI_vals n b with hg | ⟨hg0, hg1⟩
    · rw [goods_end hg] at h; simp at h
    · rw [goods_next hg0] at h ⊢
      cases i with
      | zero =>
        simp only [List.getElem?_cons_succ, List.getElem?_cons_zero, Option.some.injEq] at h
        subst h
        refine ⟨n, rfl, by simp, hg0, fun h0 => ?_⟩
        subst h0
        rw [goodI_zero] at hg0
        omega
      | succ i =>
        rw [List.getElem?_cons_succ] at h
        obtain ⟨x, h1, h2, h3, h4⟩ := ih (goodI n b) (b + 1) i y h
        exact ⟨x, by rw [List.getElem?_cons_succ]; exact h1, by rw [h2, show b + 1 + (i : Int) = b + ((i + 1 : Nat) : Int) by omega], h3, h4⟩
theorem goodRun_chain {n : Int} {i : Nat} {y : Int} (h : (goodRun n)[i + 1]? = some y) : ∃ x, (goodRun n)[i]? = some x ∧ y = goodI x ((i : Int) + 2) ∧ 0 ≤ y ∧ x ≠ 0 := by
  unfold goodRun at h ⊢
  split at h
  · rename_i hc
    rw [if_pos hc]
    obtain ⟨x, h1, h2, h3, h4⟩ := goods_chain 59 n 2 i y h
    exact ⟨x, h1, by rw [h2, Int.add_comm], h3, h4⟩
  · simp at h
theorem goodRun_head {n : Int} (h : 0 ≤ n ∧ n ≤ 1000000000) : (goodRun n)[0]? = some n := by rw [goodRun, if_pos h]; rfl
theorem goodRun_none {n : Int} (h : ¬ (0 ≤ n ∧ n ≤ 1000000000)) : goodRun n = [] := by rw [goodRun, if_neg h]

theorem goods_mem : ∀ (k : Nat) (n b x : Int), x ∈ goods k n b → 0 ≤ x ∧ x ≤ 1000000000 := by
  intro k
  induction k with
  | zero => intro n b x h; cases h
  | succ k ih =>
    intro n b x h
    rw [goods] at h
    split at h
    · cases h
    · rcases List.mem_cons.1 h with h1 | h1
      · rcases goodI_vals n b with h2 | h2
        · omega
        · rw [h1]; exact h2
      · exact ih _ _ _ h1
theorem goodRun_mem {n x : Int} (h : x ∈ goodRun n) : 0 ≤ x ∧ x ≤ 1000000000 := by
  unfold goodRun at h
  split at h
  · rename_i hc
    rcases List.mem_cons.1 h with h1 | h1
    · omega
    · exact goods_mem _ _ _ _ h1
  · cases h
theorem goodRun_cnt (n : Int) : (goodRun n).length ≤ 60 := by
  unfold goodRun
  split
  · simp only [List.length_cons]; have := goods_len 59 n 2; omega
  · simp


end T
end Go.Proofs.Ytfclhepmakhimaa

/- GoodE -/
/- The first Goodstein sequences. -/
namespace Go.Proofs.Ytfclhepmakhimaa
set_option maxRecDepth 100000
namespace T

theorem goodI_of {n b v : Nat} {t : T} (hn : 1 ≤ n) (hn2 : n ≤ 1000000000) (hb : 2 ≤ b) (hb2 : b ≤ 89) (ho : ordB b n = t) (hl : t.enc.length ≤ 60) (hs : t.slow (b + 1) = v) (hv : v ≤ 1000000000) : goodI (n : Int) (b : Int) = (v : Int) - 1 := by
  have hnf := ordB_nf hb (by omega) (n + 1) n (by omega)
  rw [ho] at hnf
  have hvl : vldB t.enc = true := vldB_true.2 ⟨hl, t, rfl, hnf⟩
  have h1 : baseRow (n : Int) (b : Int) = t.enc := by rw [baseRow_in hn2 hb (by omega), ho, fit, if_pos hvl]
  have h2 : changeI (n : Int) (b : Int) ((b : Int) + 1) = (v : Int) := by
    rw [changeI, if_pos ⟨by omega, by omega⟩, h1, show ((b : Int) + 1) = ((b + 1 : Nat) : Int) by omega, slowRow_enc hvl (by omega) (by omega), slowI_in (by omega), hs]
  rw [goodI, h2, if_pos ⟨by omega, by omega, by omega, by omega⟩]
theorem ordB_low {n b : Nat} (hb : 2 ≤ b) (hn : 1 ≤ n) (h : n < b) : ordB b n = c (n : Int) z z := by
  rw [ordB_eq hb, dig_c (t := 0) (ordB b) hb (by simpa using hn) (by simpa using h), Nat.pow_zero, Nat.div_one, Nat.mod_one, dig_z, ordB_z]
theorem goodI_low {n b : Nat} (hn : 1 ≤ n) (h : n < b) (hb2 : b ≤ 89) : goodI (n : Int) (b : Int) = (n : Int) - 1 :=
  goodI_of hn (by omega) (by omega) hb2 (ordB_low (by omega) hn h) (by simp [enc, body]) (by simp [slow]) (by omega)
theorem goodI_same {b : Nat} (hb : 2 ≤ b) (hb2 : b ≤ 89) : goodI (b : Int) (b : Int) = (b : Int) := by
  have ho : ordB b b = c 1 (c 1 z z) z := by
    rw [ordB_eq hb, dig_c (t := 1) (ordB b) hb (by rw [Nat.pow_one]; exact Nat.le_refl _) (by rw [Nat.pow_succ, Nat.pow_one]; exact Nat.lt_of_lt_of_le (show b < b * 2 by omega) (Nat.mul_le_mul_left _ hb)), Nat.pow_one, Nat.div_self (by omega), Nat.mod_self, dig_z, ordB_low hb (Nat.le_refl 1) (by omega)]
    rfl
  rw [goodI_of (v := b + 1) (by omega) (by omega) hb hb2 ho (by simp [enc, body]) (by simp [slow]) (by omega)]
  omega
theorem goodI_32 : goodI 3 2 = 3 := by
  have ho : ordB 2 3 = c 1 (c 1 z z) (c 1 z z) := by
    have h1 : ordB 2 1 = c 1 z z := ordB_low (by decide) (by decide) (by decide)
    rw [ordB_eq (by decide), dig_c (t := 1) (ordB 2) (by decide) (by decide) (by decide), h1]
    rw [show (3 : Nat) % 2 ^ 1 = 1 from rfl, show (3 : Nat) / 2 ^ 1 = 1 from rfl, ← ordB_eq (by decide), h1]
    rfl
  exact goodI_of (v := 4) (n := 3) (b := 2) (by decide) (by decide) (by decide) (by decide) ho (by simp [enc, body]) (by simp [slow]) (by decide)
theorem goodI_22 : goodI 2 2 = 2 := goodI_same (b := 2) (by decide) (by decide)
theorem goodI_33 : goodI 3 3 = 3 := goodI_same (b := 3) (by decide) (by decide)
theorem goodI_23 : goodI 2 3 = 1 := goodI_low (n := 2) (b := 3) (by decide) (by decide) (by decide)
theorem goodI_34 : goodI 3 4 = 2 := goodI_low (n := 3) (b := 4) (by decide) (by decide) (by decide)
theorem goodI_25 : goodI 2 5 = 1 := goodI_low (n := 2) (b := 5) (by decide) (by decide) (by decide)
theorem goodI_16 : goodI 1 6 = 0 := goodI_low (n := 1) (b := 6) (by decide) (by decide) (by decide)
theorem goodI_14 : goodI 1 4 = 0 := goodI_low (n := 1) (b := 4) (by decide) (by decide) (by decide)
theorem goodI_12 : goodI 1 2 = 0 := goodI_low (n := 1) (b := 2) (by decide) (by decide) (by decide)
theorem goods_go {k : Nat} {n b g : Int} (h : goodI n b = g) (hg : 0 ≤ g) : goods (k + 1) n b = g :: goods k g (b + 1) := by
  rw [goods_next (by omega), h]
theorem run0 : goodRun 0 = [0] := by rw [goodRun, if_pos (by decide), goods_end (goodI_zero 2)]
theorem run1 : goodRun 1 = [1, 0] := by
  rw [goodRun, if_pos (by decide), goods_go goodI_12 (by decide), goods_end (goodI_zero _)]
theorem run2 : goodRun 2 = [2, 2, 1, 0] := by
  rw [goodRun, if_pos (by decide), goods_go goodI_22 (by decide), goods_go (show goodI 2 (2 + 1) = 1 from goodI_23) (by decide), goods_go (show goodI 1 (2 + 1 + 1) = 0 from goodI_14) (by decide), goods_end (goodI_zero _)]
theorem run3 : goodRun 3 = [3, 3, 3, 2, 1, 0] := by
  rw [goodRun, if_pos (by decide), goods_go goodI_32 (by decide), goods_go (show goodI 3 (2 + 1) = 3 from goodI_33) (by decide), goods_go (show goodI 3 (2 + 1 + 1) = 2 from goodI_34) (by decide), goods_go (show goodI 2 (2 + 1 + 1 + 1) = 1 from goodI_25) (by decide),
    goods_go (show goodI 1 (2 + 1 + 1 + 1 + 1) = 0 from goodI_16) (by decide), goods_end (goodI_zero _)]
theorem end0 : goodEnd 0 = 1 := by rw [goodEnd_some (xs := []) (x := 0) run0]; rfl
theorem end1 : goodEnd 1 = 2 := by rw [goodEnd_some (xs := [1]) (x := 0) run1]; rfl
theorem end2 : goodEnd 2 = 4 := by rw [goodEnd_some (xs := [2, 2, 1]) (x := 0) run2]; rfl
theorem end3 : goodEnd 3 = 6 := by rw [goodEnd_some (xs := [3, 3, 3, 2, 1]) (x := 0) run3]; rfl

end T
end Go.Proofs.Ytfclhepmakhimaa

/- DrawG -/
/- What the laws of chapter 4 draw. -/
namespace Go.Proofs.Ytfclhepmakhimaa
set_option maxRecDepth 100000
open Go.RowKit

def CountPost (w : World) (g P : Nat) (e : Ending) (w' : World) : Prop :=
  ∃ v : Int, e = .returned (.int .i64 v) ∧ 0 ≤ v ∧ v ≤ 1000000000 ∧ RdOk w' g (P + 6) ∧ w.grownBy w' (some g)
def RootPost (w : World) (g P : Nat) (e : Ending) (w' : World) : Prop :=
  ∃ v : Int, e = .returned (.int .i64 v) ∧ -1 ≤ v ∧ v ≤ 99 ∧ RdOk w' g (P + 4) ∧ w.grownBy w' (some g)
theorem mul255 {x y : Int} (h1 : 0 ≤ x) (h2 : x < 256) (h3 : 0 ≤ y) (h4 : y < 256) : 0 ≤ x * y ∧ x * y ≤ 65025 := by
  refine ⟨Int.mul_nonneg h1 h3, ?_⟩
  have := Int.mul_le_mul (show x ≤ 255 by omega) (show y ≤ 255 by omega) h3 (by decide)
  omega
theorem mul255b {x y : Int} (h1 : 0 ≤ x) (h2 : x ≤ 65025) (h3 : 0 ≤ y) (h4 : y < 256) : 0 ≤ x * y ∧ x * y ≤ 16581375 := by
  refine ⟨Int.mul_nonneg h1 h3, ?_⟩
  have := Int.mul_le_mul (show x ≤ 65025 by omega) (show y ≤ 255 by omega) h3 (by decide)
  omega

set_option maxHeartbeats 4000000 in
theorem l20Count_any (g P : Nat) (w : World) (hP : P ≤ 80000000) (hrd : RdOk w g P) :
    Calls Try.prog 47 #[.pointer (some ⟨g, 0, none⟩)] w (CountPost w g P) := by
  have k1 := Lib.hid (pick_any g P 4 w (by omega) (by decide) (by decide) hrd)
  clear hrd
  go_enter Try.func47, Try.ntmps47
  go_wp2_with fail
  refine (k1.out).mono ?_
  rintro ee w1 ⟨x, rfl, hx, hr1, hg1⟩
  have hx0 := hx.1
  have hx1 := hx.2.1 (by decide)
  have hcs : x = 0 ∨ x = 1 ∨ x = 2 ∨ x = 3 := by omega
  have Hg1 := Lib.hid hg1
  have Hr1 := Lib.hid hr1
  clear hx hx0 hx1 hr1 hg1
  rcases hcs with rfl | rfl | rfl | rfl
  · have k2 := Lib.hid (pick_any g (P + 1) 20 w1 (by omega) (by decide) (by decide) Hr1.out)
    go_wp2_with fail
    refine (k2.out).mono ?_
    rintro ee w2 ⟨y, rfl, hy, hr2, hg2⟩
    have hy0 := hy.1
    have hy1 := hy.2.1 (by decide)
    have Hg2 := Lib.hid (grownBy_trans Hg1.out hg2)
    have Hr2 := Lib.hid hr2
    clear hy hr2 hg2
    go_wp2_with fail
    go_ret
    exact ⟨_, rfl, hy0, by omega, Hr2.out.mono (by omega), Hg2.out⟩
  · have k2 := Lib.hid (pick_any g (P + 1) 256 w1 (by omega) (by decide) (by decide) Hr1.out)
    go_wp2_with fail
    refine (k2.out).mono ?_
    rintro ee w2 ⟨y, rfl, hy, hr2, hg2⟩
    have hy0 := hy.1
    have hy1 := hy.2.1 (by decide)
    have Hg2 := Lib.hid (grownBy_trans Hg1.out hg2)
    have k3 := Lib.hid (pick_any g (P + 1 + 1) 256 w2 (by omega) (by decide) (by decide) hr2)
    clear hy hr2 hg2
    go_wp2_with fail
    refine (k3.out).mono ?_
    rintro ee w3 ⟨z, rfl, hz, hr3, hg3⟩
    have hz0 := hz.1
    have hz1 := hz.2.1 (by decide)
    have hm := mul255 hy0 hy1 hz0 hz1
    obtain ⟨m, hmm⟩ : ∃ m, m = y * z := ⟨_, rfl⟩
    rw [← hmm] at hm
    have hm0 := hm.1
    have hm1 := hm.2
    have q2 : IntKind.i64.wrap (y * z) = m := by rw [← hmm]; exact IntWalk.i64_in _ (by omega)
    have Hg3 := Lib.hid (grownBy_trans Hg2.out hg3)
    have Hr3 := Lib.hid hr3
    have HM := Lib.hid hmm
    clear hz hr3 hg3 hm hmm
    go_wp2_with fail
    go_ret
    exact ⟨_, rfl, by first | exact hm0 | (rw [← HM.out]; exact hm0), by first | omega | (rw [← HM.out]; omega), Hr3.out.mono (by omega), Hg3.out⟩
  · have k2 := Lib.hid (pick_any g (P + 1) 256 w1 (by omega) (by decide) (by decide) Hr1.out)
    go_wp2_with fail
    refine (k2.out).mono ?_
    rintro ee w2 ⟨y, rfl, hy, hr2, hg2⟩
    have hy0 := hy.1
    have hy1 := hy.2.1 (by decide)
    have Hg2 := Lib.hid (grownBy_trans Hg1.out hg2)
    have k3 := Lib.hid (pick_any g (P + 1 + 1) 256 w2 (by omega) (by decide) (by decide) hr2)
    clear hy hr2 hg2
    go_wp2_with fail
    refine (k3.out).mono ?_
    rintro ee w3 ⟨z, rfl, hz, hr3, hg3⟩
    have hz0 := hz.1
    have hz1 := hz.2.1 (by decide)
    have hm := mul255 hy0 hy1 hz0 hz1
    obtain ⟨m, hmm⟩ : ∃ m, m = y * z := ⟨_, rfl⟩
    rw [← hmm] at hm
    have hm0 := hm.1
    have hm1 := hm.2
    have q2 : IntKind.i64.wrap (y * z) = m := by rw [← hmm]; exact IntWalk.i64_in _ (by omega)
    have Hg3 := Lib.hid (grownBy_trans Hg2.out hg3)
    have k4 := Lib.hid (pick_any g (P + 1 + 1 + 1) 256 w3 (by omega) (by decide) (by decide) hr3)
    have HM := Lib.hid hmm
    clear hz hr3 hg3 hm hmm
    go_wp2_with fail
    refine (k4.out).mono ?_
    rintro ee w4 ⟨v, rfl, hv, hr4, hg4⟩
    have hv0 := hv.1
    have hv1 := hv.2.1 (by decide)
    have hn := mul255b hm0 hm1 hv0 hv1
    obtain ⟨n, hnn⟩ : ∃ n, n = m * v := ⟨_, rfl⟩
    rw [← hnn] at hn
    have hn0 := hn.1
    have hn1 := hn.2
    have q3 : IntKind.i64.wrap (m * v) = n := by rw [← hnn]; exact IntWalk.i64_in _ (by omega)
    have q3' : m * v = n := hnn.symm
    have Hg4 := Lib.hid (grownBy_trans Hg3.out hg4)
    have k5 := Lib.hid (pick_any g (P + 1 + 1 + 1 + 1) 256 w4 (by omega) (by decide) (by decide) hr4)
    clear hv hr4 hg4 hn hnn
    go_wp2_with fail
    refine (k5.out).mono ?_
    rintro ee w5 ⟨u, rfl, hu, hr5, hg5⟩
    have hu0 := hu.1
    have hu1 := hu.2.1 (by decide)
    have Hg5 := Lib.hid (grownBy_trans Hg4.out hg5)
    have Hr5 := Lib.hid hr5
    clear hu hr5 hg5
    go_wp2_with fail
    go_ret
    exact ⟨_, rfl, by omega, by omega, Hr5.out.mono (by omega), Hg5.out⟩
  · have k2 := Lib.hid (pick_any g (P + 1) 256 w1 (by omega) (by decide) (by decide) Hr1.out)
    go_wp2_with fail
    refine (k2.out).mono ?_
    rintro ee w2 ⟨y, rfl, hy, hr2, hg2⟩
    have hy0 := hy.1
    have hy1 := hy.2.1 (by decide)
    have Hg2 := Lib.hid (grownBy_trans Hg1.out hg2)
    have Hr2 := Lib.hid hr2
    clear hy hr2 hg2
    go_wp2_with fail
    go_ret
    exact ⟨_, rfl, hy0, by omega, Hr2.out.mono (by omega), Hg2.out⟩




set_option maxHeartbeats 2000000 in
theorem drawGoodsteinRun_any (a : Option Addr) (len cap : Nat) (w : World) (h : By w a len cap) : Calls Try.prog 23 #[.slice a len cap] w fun e w' => ∃ x : Int, e = .returned (.int .i64 x) ∧ -20 ≤ x ∧ x ≤ 1000000000 ∧ Below w.heap.size w w' := by
  have k0 := Lib.hid (open_any a len cap w h)
  obtain ⟨g, hg⟩ : ∃ g, g = w.heap.size := ⟨_, rfl⟩
  rw [← hg] at k0
  have Hg := Lib.hid hg
  clear hg h
  go_enter Try.func23, Try.ntmps23
  go_wp2_with fail
  refine (k0.out).mono ?_
  rintro ee w1 ⟨rfl, hr1, hb1⟩
  have Hb1 := Lib.hid hb1
  clear hb1
  have k1 := Lib.hid (l20Count_any g (0) w1 (by decide) hr1)
  clear hr1
  go_wp2_with fail
  refine (k1.out).mono ?_
  rintro ee w2 ⟨x, rfl, hx0, hx1, hr2, hg2⟩
  have Hg2 := Lib.hid hg2
  have k2 := Lib.hid (pick_any g (0 + 6) 30 w2 (by decide) (by decide) (by decide) hr2)
  clear hg2 hr2
  go_wp2_with fail
  refine (k2.out).mono ?_
  rintro ee w3 ⟨u, rfl, hu, hr3, hg3⟩
  have hu0 := hu.1
  have hu1 := hu.2.1 (by decide)
  have hd2 : 0 ≤ u / 29 := by omega
  have hd3 : u / 29 ≤ 1 := by omega
  have q4 : u.tdiv 29 = u / 29 := Int.tdiv_eq_ediv_of_nonneg hu0
  have Hg3 := Lib.hid (grownBy_trans Hg2.out hg3)
  clear hu hr3 hg3
  go_wp2_with fail
  go_ret
  have hs1 : g ≤ w1.heap.size := by have h1 := Hb1.out.size; have h2 := Hg.out; omega
  refine ⟨_, rfl, ?_, ?_, by rw [← Hg.out]; exact Hb1.out.grown Hg3.out hs1 (fun k e => by cases e; exact Nat.le_refl _)⟩
  · omega
  · omega
set_option maxHeartbeats 2000000 in
theorem drawGoodsteinEnd_any (a : Option Addr) (len cap : Nat) (w : World) (h : By w a len cap) : Calls Try.prog 26 #[.slice a len cap] w fun e w' => ∃ x : Int, e = .returned (.int .i64 x) ∧ -2 ≤ x ∧ x ≤ 7 ∧ Below w.heap.size w w' := by
  have k0 := Lib.hid (open_any a len cap w h)
  obtain ⟨g, hg⟩ : ∃ g, g = w.heap.size := ⟨_, rfl⟩
  rw [← hg] at k0
  have Hg := Lib.hid hg
  clear hg h
  go_enter Try.func26, Try.ntmps26
  go_wp2_with fail
  refine (k0.out).mono ?_
  rintro ee w1 ⟨rfl, hr1, hb1⟩
  have Hb1 := Lib.hid hb1
  clear hb1
  have k1 := Lib.hid (pick_any g 0 8 w1 (by decide) (by decide) (by decide) hr1)
  clear hr1
  go_wp2_with fail
  refine (k1.out).mono ?_
  rintro ee w2 ⟨x, rfl, hx, hr2, hg2⟩
  have hx0 := hx.1
  have hx1 := hx.2.1 (by decide)
  have Hg2 := Lib.hid hg2
  have k2 := Lib.hid (pick_any g (0 + 1) 9 w2 (by decide) (by decide) (by decide) hr2)
  clear hx hg2 hr2
  go_wp2_with fail
  refine (k2.out).mono ?_
  rintro ee w3 ⟨u, rfl, hu, hr3, hg3⟩
  have hu0 := hu.1
  have hu1 := hu.2.1 (by decide)
  have hd2 : 0 ≤ u / 8 := by omega
  have hd3 : u / 8 ≤ 1 := by omega
  have q4 : u.tdiv 8 = u / 8 := Int.tdiv_eq_ediv_of_nonneg hu0
  have Hg3 := Lib.hid (grownBy_trans Hg2.out hg3)
  clear hu hr3 hg3
  go_wp2_with fail
  go_ret
  have hs1 : g ≤ w1.heap.size := by have h1 := Hb1.out.size; have h2 := Hg.out; omega
  refine ⟨_, rfl, ?_, ?_, by rw [← Hg.out]; exact Hb1.out.grown Hg3.out hs1 (fun k e => by cases e; exact Nat.le_refl _)⟩
  · omega
  · omega

end Go.Proofs.Ytfclhepmakhimaa

/- LFnGoodsteinEnd -/
/- FnGoodsteinEnd: the walk of the law. -/
namespace Go.Proofs.Ytfclhepmakhimaa
set_option maxRecDepth 100000
open Go.RowKit

set_option maxHeartbeats 4000000 in
theorem fnGoodsteinEnd_walk (a : Option Addr) (len cap : Nat) (w : World) (h : By w a len cap) :
    Calls Try.prog 8 #[.slice a len cap] w fun e w' => e = .returned (.bool true) ∧ Below w.heap.size w w' := by
  have hlm : len ≤ 9223372036854775807 := by have := h.1; have := h.2.1; unfold maxLen at this; omega
  by_cases hbig : 1048576 < len
  · clear h
    go_enter Try.func8, Try.ntmps8
    go_wp2_with fail
    go_ret
    exact ⟨rfl, Below.refl _ _⟩
  have k0 := Lib.hid (drawGoodsteinEnd_any a len cap w h)
  clear h
  go_enter Try.func8, Try.ntmps8
  go_wp2_with fail
  refine (k0.out).mono ?_
  rintro ee w1 ⟨N, rfl, hN0, hN1, hb0⟩
  have Hb0 := Lib.hid hb0
  have hw1 := hb0.size
  clear hb0
  have k1 := Lib.hid (impl_GoodsteinEnd N w1 (by omega) (by omega))
  have k2 := Lib.hid (fun wx => spec_GoodsteinEnd N wx (by omega) (by omega))
  have k3 := Lib.hid (fun wx => impl_GoodsteinRun N wx (by omega) (by omega))
  unfold IntPost at k3
  have hcs : N = 0 ∨ N = 1 ∨ N = 2 ∨ N = 3 ∨ N < 0 ∨ 3 < N := by omega
  rcases hcs with rfl | rfl | rfl | rfl | hout
  · have hne : ((1 : Int) != 1) = false := by decide
    rw [T.end0] at k1 k2
    rw [T.run0] at k3
    go_wp2_with fail
    refine (k1.out).mono ?_
    rintro ee w2 ⟨rfl, hb2⟩
    have Hb2 := Lib.hid (Hb0.out.trans (hb2.mono hw1))
    clear hb2
    go_wp2_with fail
    refine (k2.out _).mono ?_
    rintro ee w3 ⟨rfl, hb3⟩
    have Hb3 := Lib.hid (Hb2.out.trans (hb3.mono Hb2.out.size))
    have hw3 := Hb3.out.size
    clear hb3
    have zq : ∀ wz : World, (wz.alloc (.cells #[.int .i64 1, .int .i64 2, .int .i64 4, .int .i64 6] 3)).cell? ⟨wz.heap.size, 0, none⟩ = some (.int .i64 1) := fun wz => by
      rw [Joins.cell_alloc_mark_at _ _ _ _ _ _ rfl]; rfl
    have HB := Lib.hid (Hb3.out.alloc hw3 (.cells #[.int .i64 1, .int .i64 2, .int .i64 4, .int .i64 6] 3))
    have zz := zq w3
    clear zq
    go_wp2_with fail
    refine (k3.out _).mono ?_
    rintro ee w4 ⟨a4, c4, rfl, ho4, hb4⟩
    have hb4' := HB.out.trans (hb4.mono HB.out.size)
    have Hb4 := Lib.hid hb4'
    obtain ⟨g, c', hv⟩ := Joins.ownsRow_form ho4 (by decide)
    simp only [Value.slice.injEq] at hv
    obtain ⟨rfl, _, rfl⟩ := hv
    have y0 : w4.cell? ⟨g, 0, none⟩ = some (.int .i64 0) := (ho4.cellAt 0 (by decide)).trans rfl
    have k5 := Lib.hid (alive_any w4)
    clear ho4 hb4 hb4'
    go_wp2_with fail
    refine (k5.out).mono ?_
    rintro ee w5 ⟨rfl, hb5⟩
    have Hb5 := Lib.hid (Hb4.out.trans (hb5.mono Hb4.out.size))
    clear hb5
    go_wp2_with fail
    go_ret
    exact ⟨rfl, Hb5.out⟩
  · have hne : ((2 : Int) != 2) = false := by decide
    rw [T.end1] at k1 k2
    rw [T.run1] at k3
    go_wp2_with fail
    refine (k1.out).mono ?_
    rintro ee w2 ⟨rfl, hb2⟩
    have Hb2 := Lib.hid (Hb0.out.trans (hb2.mono hw1))
    clear hb2
    go_wp2_with fail
    refine (k2.out _).mono ?_
    rintro ee w3 ⟨rfl, hb3⟩
    have Hb3 := Lib.hid (Hb2.out.trans (hb3.mono Hb2.out.size))
    have hw3 := Hb3.out.size
    clear hb3
    have zq : ∀ wz : World, (wz.alloc (.cells #[.int .i64 1, .int .i64 2, .int .i64 4, .int .i64 6] 3)).cell? ⟨wz.heap.size, 1, none⟩ = some (.int .i64 2) := fun wz => by
      rw [Joins.cell_alloc_mark_at _ _ _ _ _ _ rfl]; rfl
    have HB := Lib.hid (Hb3.out.alloc hw3 (.cells #[.int .i64 1, .int .i64 2, .int .i64 4, .int .i64 6] 3))
    have zz := zq w3
    clear zq
    go_wp2_with fail
    refine (k3.out _).mono ?_
    rintro ee w4 ⟨a4, c4, rfl, ho4, hb4⟩
    have hb4' := HB.out.trans (hb4.mono HB.out.size)
    have Hb4 := Lib.hid hb4'
    obtain ⟨g, c', hv⟩ := Joins.ownsRow_form ho4 (by decide)
    simp only [Value.slice.injEq] at hv
    obtain ⟨rfl, _, rfl⟩ := hv
    have y0 : w4.cell? ⟨g, 1, none⟩ = some (.int .i64 0) := (ho4.cellAt 1 (by decide)).trans rfl
    have k5 := Lib.hid (alive_any w4)
    clear ho4 hb4 hb4'
    go_wp2_with fail
    refine (k5.out).mono ?_
    rintro ee w5 ⟨rfl, hb5⟩
    have Hb5 := Lib.hid (Hb4.out.trans (hb5.mono Hb4.out.size))
    clear hb5
    go_wp2_with fail
    go_ret
    exact ⟨rfl, Hb5.out⟩
  · have hne : ((4 : Int) != 4) = false := by decide
    rw [T.end2] at k1 k2
    rw [T.run2] at k3
    go_wp2_with fail
    refine (k1.out).mono ?_
    rintro ee w2 ⟨rfl, hb2⟩
    have Hb2 := Lib.hid (Hb0.out.trans (hb2.mono hw1))
    clear hb2
    go_wp2_with fail
    refine (k2.out _).mono ?_
    rintro ee w3 ⟨rfl, hb3⟩
    have Hb3 := Lib.hid (Hb2.out.trans (hb3.mono Hb2.out.size))
    have hw3 := Hb3.out.size
    clear hb3
    have zq : ∀ wz : World, (wz.alloc (.cells #[.int .i64 1, .int .i64 2, .int .i64 4, .int .i64 6] 3)).cell? ⟨wz.heap.size, 2, none⟩ = some (.int .i64 4) := fun wz => by
      rw [Joins.cell_alloc_mark_at _ _ _ _ _ _ rfl]; rfl
    have HB := Lib.hid (Hb3.out.alloc hw3 (.cells #[.int .i64 1, .int .i64 2, .int .i64 4, .int .i64 6] 3))
    have zz := zq w3
    clear zq
    go_wp2_with fail
    refine (k3.out _).mono ?_
    rintro ee w4 ⟨a4, c4, rfl, ho4, hb4⟩
    have hb4' := HB.out.trans (hb4.mono HB.out.size)
    have Hb4 := Lib.hid hb4'
    obtain ⟨g, c', hv⟩ := Joins.ownsRow_form ho4 (by decide)
    simp only [Value.slice.injEq] at hv
    obtain ⟨rfl, _, rfl⟩ := hv
    have y0 : w4.cell? ⟨g, 3, none⟩ = some (.int .i64 0) := (ho4.cellAt 3 (by decide)).trans rfl
    have k5 := Lib.hid (alive_any w4)
    clear ho4 hb4 hb4'
    go_wp2_with fail
    refine (k5.out).mono ?_
    rintro ee w5 ⟨rfl, hb5⟩
    have Hb5 := Lib.hid (Hb4.out.trans (hb5.mono Hb4.out.size))
    clear hb5
    go_wp2_with fail
    go_ret
    exact ⟨rfl, Hb5.out⟩
  · have hne : ((6 : Int) != 6) = false := by decide
    rw [T.end3] at k1 k2
    rw [T.run3] at k3
    go_wp2_with fail
    refine (k1.out).mono ?_
    rintro ee w2 ⟨rfl, hb2⟩
    have Hb2 := Lib.hid (Hb0.out.trans (hb2.mono hw1))
    clear hb2
    go_wp2_with fail
    refine (k2.out _).mono ?_
    rintro ee w3 ⟨rfl, hb3⟩
    have Hb3 := Lib.hid (Hb2.out.trans (hb3.mono Hb2.out.size))
    have hw3 := Hb3.out.size
    clear hb3
    have zq : ∀ wz : World, (wz.alloc (.cells #[.int .i64 1, .int .i64 2, .int .i64 4, .int .i64 6] 3)).cell? ⟨wz.heap.size, 3, none⟩ = some (.int .i64 6) := fun wz => by
      rw [Joins.cell_alloc_mark_at _ _ _ _ _ _ rfl]; rfl
    have HB := Lib.hid (Hb3.out.alloc hw3 (.cells #[.int .i64 1, .int .i64 2, .int .i64 4, .int .i64 6] 3))
    have zz := zq w3
    clear zq
    go_wp2_with fail
    refine (k3.out _).mono ?_
    rintro ee w4 ⟨a4, c4, rfl, ho4, hb4⟩
    have hb4' := HB.out.trans (hb4.mono HB.out.size)
    have Hb4 := Lib.hid hb4'
    obtain ⟨g, c', hv⟩ := Joins.ownsRow_form ho4 (by decide)
    simp only [Value.slice.injEq] at hv
    obtain ⟨rfl, _, rfl⟩ := hv
    have y0 : w4.cell? ⟨g, 5, none⟩ = some (.int .i64 0) := (ho4.cellAt 5 (by decide)).trans rfl
    have k5 := Lib.hid (alive_any w4)
    clear ho4 hb4 hb4'
    go_wp2_with fail
    refine (k5.out).mono ?_
    rintro ee w5 ⟨rfl, hb5⟩
    have Hb5 := Lib.hid (Hb4.out.trans (hb5.mono Hb4.out.size))
    clear hb5
    go_wp2_with fail
    go_ret
    exact ⟨rfl, Hb5.out⟩
  · have hlen := T.goodRun_len N
    have hsp : (0 ≤ N ∧ ¬ N ≤ 3) ∨ ¬ 0 ≤ N := by omega
    rcases List.eq_nil_or_concat (T.goodRun N) with hr | ⟨xs, x, hr⟩
    · rw [T.goodEnd_nil hr] at k1 k2
      rw [hr] at k3
      have hne : (((-1 : Int)) != -1) = false := by decide
      clear hr hlen hout
      rcases hsp with ⟨hs1, hs2⟩ | hs1
      · go_wp2_with fail
        refine (k1.out).mono ?_
        rintro ee w2 ⟨rfl, hb2⟩
        have Hb2 := Lib.hid (Hb0.out.trans (hb2.mono hw1))
        clear hb2
        go_wp2_with fail
        refine (k2.out _).mono ?_
        rintro ee w3 ⟨rfl, hb3⟩
        have Hb3 := Lib.hid (Hb2.out.trans (hb3.mono Hb2.out.size))
        have hw3 := Hb3.out.size
        clear hb3
        go_wp2_with fail
        refine (k3.out _).mono ?_
        rintro ee w4 ⟨a4, c4, rfl, ho4, hb4⟩
        have Hb4 := Lib.hid (Hb3.out.trans (hb4.mono Hb3.out.size))
        have k5 := Lib.hid (alive_any w4)
        clear ho4 hb4
        go_wp2_with fail
        refine (k5.out).mono ?_
        rintro ee w5 ⟨rfl, hb5⟩
        have Hb5 := Lib.hid (Hb4.out.trans (hb5.mono Hb4.out.size))
        clear hb5
        go_wp2_with fail
        go_ret
        exact ⟨rfl, Hb5.out⟩
      · go_wp2_with fail
        refine (k1.out).mono ?_
        rintro ee w2 ⟨rfl, hb2⟩
        have Hb2 := Lib.hid (Hb0.out.trans (hb2.mono hw1))
        clear hb2
        go_wp2_with fail
        refine (k2.out _).mono ?_
        rintro ee w3 ⟨rfl, hb3⟩
        have Hb3 := Lib.hid (Hb2.out.trans (hb3.mono Hb2.out.size))
        have hw3 := Hb3.out.size
        clear hb3
        go_wp2_with fail
        refine (k3.out _).mono ?_
        rintro ee w4 ⟨a4, c4, rfl, ho4, hb4⟩
        have Hb4 := Lib.hid (Hb3.out.trans (hb4.mono Hb3.out.size))
        have k5 := Lib.hid (alive_any w4)
        clear ho4 hb4
        go_wp2_with fail
        refine (k5.out).mono ?_
        rintro ee w5 ⟨rfl, hb5⟩
        have Hb5 := Lib.hid (Hb4.out.trans (hb5.mono Hb4.out.size))
        clear hb5
        go_wp2_with fail
        go_ret
        exact ⟨rfl, Hb5.out⟩
    · rw [List.concat_eq_append] at hr
      rw [T.goodEnd_some hr] at k1 k2
      have hl : (xs ++ [x]).length = xs.length + 1 := by simp
      rw [hr] at k3 hlen
      rw [hl] at k3 hlen
      have hx : (ints (xs ++ [x]))[xs.length]? = some (.int .i64 x) := by simp [ints]
      obtain ⟨l, hll⟩ : ∃ l, l = xs.length := ⟨_, rfl⟩
      rw [← hll] at k1 k2 k3 hx hlen
      have Hx := Lib.hid hx
      clear hr hl hll hx hout
      by_cases hx0 : x = 0
      · rw [if_pos hx0] at k1 k2
        subst hx0
        have hne : (((l + 1 : Nat) : Int) != ((l + 1 : Nat) : Int)) = false := by simp
        have hl1 : ((l + 1 : Nat) : Int) - 1 = (l : Int) := by omega
        have hm1 : (((l + 1 : Nat) : Int) == -1) = false := by simp; omega
        have heq : (((l + 1 : Nat) : Int) == ((l + 1 : Nat) : Int)) = true := by simp
        rcases hsp with ⟨hs1, hs2⟩ | hs1
        · go_wp2_with fail
          refine (k1.out).mono ?_
          rintro ee w2 ⟨rfl, hb2⟩
          have Hb2 := Lib.hid (Hb0.out.trans (hb2.mono hw1))
          clear hb2
          go_wp2_with fail
          refine (k2.out _).mono ?_
          rintro ee w3 ⟨rfl, hb3⟩
          have Hb3 := Lib.hid (Hb2.out.trans (hb3.mono Hb2.out.size))
          have hw3 := Hb3.out.size
          clear hb3
          go_wp2_with fail
          refine (k3.out _).mono ?_
          rintro ee w4 ⟨a4, c4, rfl, ho4, hb4⟩
          have Hb4 := Lib.hid (Hb3.out.trans (hb4.mono Hb3.out.size))
          obtain ⟨g, c', hv⟩ := Joins.ownsRow_form ho4 (by omega)
          simp only [Value.slice.injEq] at hv
          obtain ⟨rfl, _, rfl⟩ := hv
          have y0 : w4.cell? ⟨g, l, none⟩ = some (.int .i64 0) := (ho4.cellAt l (by omega)).trans Hx.out
          have k5 := Lib.hid (alive_any w4)
          clear ho4 hb4
          go_wp2_with fail
          refine (k5.out).mono ?_
          rintro ee w5 ⟨rfl, hb5⟩
          have Hb5 := Lib.hid (Hb4.out.trans (hb5.mono Hb4.out.size))
          clear hb5
          go_wp2_with fail
          go_ret
          exact ⟨rfl, Hb5.out⟩
        · go_wp2_with fail
          refine (k1.out).mono ?_
          rintro ee w2 ⟨rfl, hb2⟩
          have Hb2 := Lib.hid (Hb0.out.trans (hb2.mono hw1))
          clear hb2
          go_wp2_with fail
          refine (k2.out _).mono ?_
          rintro ee w3 ⟨rfl, hb3⟩
          have Hb3 := Lib.hid (Hb2.out.trans (hb3.mono Hb2.out.size))
          have hw3 := Hb3.out.size
          clear hb3
          go_wp2_with fail
          refine (k3.out _).mono ?_
          rintro ee w4 ⟨a4, c4, rfl, ho4, hb4⟩
          have Hb4 := Lib.hid (Hb3.out.trans (hb4.mono Hb3.out.size))
          obtain ⟨g, c', hv⟩ := Joins.ownsRow_form ho4 (by omega)
          simp only [Value.slice.injEq] at hv
          obtain ⟨rfl, _, rfl⟩ := hv
          have y0 : w4.cell? ⟨g, l, none⟩ = some (.int .i64 0) := (ho4.cellAt l (by omega)).trans Hx.out
          have k5 := Lib.hid (alive_any w4)
          clear ho4 hb4
          go_wp2_with fail
          refine (k5.out).mono ?_
          rintro ee w5 ⟨rfl, hb5⟩
          have Hb5 := Lib.hid (Hb4.out.trans (hb5.mono Hb4.out.size))
          clear hb5
          go_wp2_with fail
          go_ret
          exact ⟨rfl, Hb5.out⟩
      · rw [if_neg hx0] at k1 k2
        have hne : (((-1 : Int)) != -1) = false := by decide
        rcases hsp with ⟨hs1, hs2⟩ | hs1
        · go_wp2_with fail
          refine (k1.out).mono ?_
          rintro ee w2 ⟨rfl, hb2⟩
          have Hb2 := Lib.hid (Hb0.out.trans (hb2.mono hw1))
          clear hb2
          go_wp2_with fail
          refine (k2.out _).mono ?_
          rintro ee w3 ⟨rfl, hb3⟩
          have Hb3 := Lib.hid (Hb2.out.trans (hb3.mono Hb2.out.size))
          have hw3 := Hb3.out.size
          clear hb3
          go_wp2_with fail
          refine (k3.out _).mono ?_
          rintro ee w4 ⟨a4, c4, rfl, ho4, hb4⟩
          have Hb4 := Lib.hid (Hb3.out.trans (hb4.mono Hb3.out.size))
          have k5 := Lib.hid (alive_any w4)
          clear ho4 hb4
          go_wp2_with fail
          refine (k5.out).mono ?_
          rintro ee w5 ⟨rfl, hb5⟩
          have Hb5 := Lib.hid (Hb4.out.trans (hb5.mono Hb4.out.size))
          clear hb5
          go_wp2_with fail
          go_ret
          exact ⟨rfl, Hb5.out⟩
        · go_wp2_with fail
          refine (k1.out).mono ?_
          rintro ee w2 ⟨rfl, hb2⟩
          have Hb2 := Lib.hid (Hb0.out.trans (hb2.mono hw1))
          clear hb2
          go_wp2_with fail
          refine (k2.out _).mono ?_
          rintro ee w3 ⟨rfl, hb3⟩
          have Hb3 := Lib.hid (Hb2.out.trans (hb3.mono Hb2.out.size))
          have hw3 := Hb3.out.size
          clear hb3
          go_wp2_with fail
          refine (k3.out _).mono ?_
          rintro ee w4 ⟨a4, c4, rfl, ho4, hb4⟩
          have Hb4 := Lib.hid (Hb3.out.trans (hb4.mono Hb3.out.size))
          have k5 := Lib.hid (alive_any w4)
          clear ho4 hb4
          go_wp2_with fail
          refine (k5.out).mono ?_
          rintro ee w5 ⟨rfl, hb5⟩
          have Hb5 := Lib.hid (Hb4.out.trans (hb5.mono Hb4.out.size))
          clear hb5
          go_wp2_with fail
          go_ret
          exact ⟨rfl, Hb5.out⟩


end Go.Proofs.Ytfclhepmakhimaa
