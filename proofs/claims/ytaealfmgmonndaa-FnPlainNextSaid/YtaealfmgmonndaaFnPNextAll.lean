/- FnPNextAll: one text out of PlainM, GoodL, GoodQ, GoodE, GoodP, GoodX, PlainI, PlainS, DrawG, LFnPlainNext. -/
import Derived.Test.YtaealfmgmonndaaGoodN
import Derived.Test.YtaealfmgmonndaaBaseV
import Derived.Test.YtaealfmgmonndaaBaseU
import Derived.Deep.LoopGhost
import Derived.Test.YtaealfmgmonndaaBaseS
import Derived.Test.YtaealfmgmonndaaDraw0
import Derived.Test.YtaealfmgmonndaaFn1
/- PlainM -/
/- The numbers that digits are in the next base. -/
namespace Go.Proofs.Ytaealfmgmonndaa
set_option maxRecDepth 100000
namespace T

def rd (b n : Nat) : Nat := readD (b + 1) (digs b n)
theorem rd_z (b : Nat) : rd b 0 = 0 := by rw [rd, digs_z]; rfl
theorem rd_eq {b : Nat} (hb : 2 ≤ b) (n : Nat) : rd b n = n % b + (b + 1) * rd b (n / b) := by
  rcases Nat.eq_zero_or_pos n with rfl | hn
  · rw [Nat.zero_mod, Nat.zero_div, rd_z]; rfl
  · rw [rd, digs_c hb hn]; rfl
theorem rd_lin {b : Nat} (hb : 2 ≤ b) : ∀ k n, n < b ^ (k + 1) → 2 ^ k * rd b n ≤ 3 ^ k * n := by
  intro k
  induction k with
  | zero =>
    intro n h
    have h1 : n < b := by simpa using h
    rw [rd_eq hb, Nat.div_eq_of_lt h1, rd_z, Nat.mod_eq_of_lt h1]
    simp
  | succ k ih =>
    intro n h
    have h1 := ih (n / b) ((Nat.div_lt_iff_lt_mul (by omega)).2 (by rw [← Nat.pow_succ]; exact h))
    have h2 : 2 ^ k ≤ 3 ^ k := Nat.pow_le_pow_left (by omega) k
    have h3 := Nat.div_add_mod n b
    rw [rd_eq hb]
    obtain ⟨X, hX⟩ : ∃ X, X = 2 ^ k := ⟨_, rfl⟩
    obtain ⟨Y, hY⟩ : ∃ Y, Y = 3 ^ k := ⟨_, rfl⟩
    obtain ⟨m, hm⟩ : ∃ m, m = n / b := ⟨_, rfl⟩
    obtain ⟨d, hd⟩ : ∃ d, d = n % b := ⟨_, rfl⟩
    rw [Nat.pow_succ, Nat.pow_succ, ← hX, ← hY, ← hm, ← hd]
    rw [← hX, ← hY, ← hm] at h1
    rw [← hX, ← hY] at h2
    rw [← hm, ← hd] at h3
    obtain ⟨r, hr⟩ : ∃ r, r = rd b m := ⟨_, rfl⟩
    rw [← hr] at h1 ⊢
    have h4 : X * 2 * d ≤ Y * 3 * d := Nat.mul_le_mul_right d (by omega)
    have h5 : (2 * (b + 1)) * (X * r) ≤ (3 * b) * (Y * m) := Nat.mul_le_mul (by omega) h1
    have h6 : X * 2 * ((b + 1) * r) = (2 * (b + 1)) * (X * r) := by simp only [Nat.mul_assoc, Nat.mul_comm, Nat.mul_left_comm]
    have h7 : Y * 3 * (b * m) = (3 * b) * (Y * m) := by simp only [Nat.mul_assoc, Nat.mul_comm, Nat.mul_left_comm]
    rw [← h3, Nat.mul_add, Nat.mul_add, h6, h7]
    omega
theorem rd_bound {b n : Nat} (hb : 2 ≤ b) (hn : n ≤ 1000000000) : rd b n ≤ 200000000000000 := by
  have h := rd_lin hb 29 n (big_pow hb hn)
  have h1 : 3 ^ 29 * n ≤ 3 ^ 29 * 1000000000 := Nat.mul_le_mul_left _ hn
  have h2 : (2 : Nat) ^ 29 = 536870912 := by decide
  have h3 : (3 : Nat) ^ 29 = 68630377364883 := by decide
  rw [h2] at h
  rw [h3] at h h1
  omega
theorem rd_pow {b : Nat} (hb : 2 ≤ b) : ∀ t, rd b (b ^ t) = (b + 1) ^ t := by
  intro t
  induction t with
  | zero => rw [Nat.pow_zero, Nat.pow_zero, rd_eq hb, Nat.div_eq_of_lt (by omega), rd_z, Nat.mod_eq_of_lt (by omega), Nat.mul_zero]
  | succ t ih => rw [rd_eq hb, Nat.pow_succ, Nat.mul_mod_left, Nat.mul_div_cancel _ (by omega), ih, Nat.pow_succ, Nat.mul_comm, Nat.zero_add]
theorem pow_bound {b t : Nat} (hb : 2 ≤ b) (h : b ^ t ≤ 1000000000) : (b + 1) ^ t ≤ 200000000000000 := by
  rw [← rd_pow hb]; exact rd_bound hb h
theorem mod7 : ∀ x, x < 7 → ∀ y, y < 7 → x * y % 7 = 0 → x = 0 ∨ y = 0 := by decide
theorem pow7 {B : Nat} (h : B % 7 ≠ 0) : ∀ k, B ^ k % 7 ≠ 0 := by
  intro k
  induction k with
  | zero => simp
  | succ k ih =>
    intro h1
    rw [Nat.pow_succ, Nat.mul_mod] at h1
    rcases mod7 _ (Nat.mod_lt _ (by omega)) _ (Nat.mod_lt _ (by omega)) h1 with h2 | h2
    · exact ih h2
    · exact h h2
/-- The number behind the greatest number is no power of a base. -/
theorem pow_ne {B k : Nat} (hB : B ≤ 91) : B ^ k ≠ 1000000001 := by
  intro h
  by_cases h7 : B % 7 = 0
  · obtain ⟨c, hc⟩ : ∃ c, B = 7 * c := ⟨B / 7, by omega⟩
    rcases k with _ | _ | k
    · simp at h
    · simp at h; omega
    · rw [Nat.pow_succ, Nat.pow_succ, hc] at h
      have h2 : (7 * c) ^ k * (7 * c) * (7 * c) = 49 * ((7 * c) ^ k * (c * c)) := by
        rw [show (49 : Nat) = 7 * 7 from rfl]; simp only [Nat.mul_assoc, Nat.mul_comm, Nat.mul_left_comm]
      rw [h2] at h
      omega
  · exact pow7 h7 k (by rw [h])

theorem plainI_in {b n : Nat} (h1 : 1 ≤ n) (h2 : n ≤ 1000000000) (h3 : 2 ≤ b) (h4 : b ≤ 89) : plainI (n : Int) (b : Int) = if (rd b n : Int) - 1 ≤ 1000000000 then (rd b n : Int) - 1 else -1 := by
  rw [plainI]
  show (if 1 ≤ (n : Int) ∧ (n : Int) ≤ 1000000000 ∧ 2 ≤ (b : Int) ∧ (b : Int) ≤ 89 ∧ (rd b n : Int) - 1 ≤ 1000000000 then (rd b n : Int) - 1 else -1) = _
  by_cases h : (rd b n : Int) - 1 ≤ 1000000000
  · rw [if_pos ⟨by omega, by omega, by omega, by omega, h⟩, if_pos h]
  · rw [if_neg (fun k => h k.2.2.2.2), if_neg h]
theorem plainI_out {n b : Int} (h : ¬ ((1 ≤ n ∧ n ≤ 1000000000) ∧ 2 ≤ b ∧ b ≤ 89)) : plainI n b = -1 := by
  rw [plainI, if_neg (fun k => h ⟨⟨k.1, k.2.1⟩, k.2.2.1, k.2.2.2.1⟩)]
theorem rd_step {b n t : Nat} (hb : 2 ≤ b) : rd b (n / b ^ t) = n / b ^ t % b + (b + 1) * rd b (n / b ^ (t + 1)) := by
  rw [rd_eq hb, Nat.div_div_eq_div_mul, ← Nat.pow_succ]

end T
end Go.Proofs.Ytaealfmgmonndaa

/- GoodL -/
/- What the drawn laws of chapter 4 say, on rows. -/
namespace Go.Proofs.Ytaealfmgmonndaa
set_option maxRecDepth 100000
namespace T

theorem base_some {n b : Int} (h : baseRow n b ≠ []) : ∃ (N B : Nat), n = N ∧ b = B ∧ N ≤ 1000000000 ∧ 2 ≤ B ∧ B ≤ 90 ∧ baseRow n b = (ordB B N).enc ∧ vldB (ordB B N).enc = true := by
  unfold baseRow at h ⊢
  split at h
  · rename_i hc
    rw [if_pos hc]
    rw [fit] at h ⊢
    split at h
    · rename_i hv
      rw [if_pos hv]
      exact ⟨n.toNat, b.toNat, by omega, by omega, by omega, by omega, by omega, rfl, hv⟩
    · exact absurd rfl h
  · exact absurd rfl h
theorem ordB_props {B N : Nat} (hB : 2 ≤ B) (hB2 : B ≤ 90) : (ordB B N).Nf ∧ (ordB B N).most < B ∧ (ordB B N).slow B = N :=
  ⟨ordB_nf hB (by omega) (N + 1) N (by omega), ordB_most hB (N + 1) N (by omega), ordB_slow hB (N + 1) N (by omega)⟩
theorem baseRow_of {t : T} {B : Nat} (hB : 2 ≤ B) (hB2 : B ≤ 90) (ht : vldB t.enc = true) (hm : t.most < B) (hs : t.slow B ≤ 1000000000) : baseRow (t.slow B : Int) (B : Int) = t.enc := by
  obtain ⟨h1, u, h2, h3⟩ := vldB_true.1 ht
  have hu : t.Nf := by
    have e : of t.enc = of u.enc := by first | rw [h2] | rw [← h2]
    rw [of_enc, of_enc] at e
    rw [e]; exact h3
  rw [baseRow_in hs hB hB2, ordB_of_slow hB (by omega) hu hm, fit, if_pos ht]
theorem slowRow_enc {t : T} {v : Nat} (h : vldB t.enc = true) (h1 : 1 ≤ v) (h2 : v ≤ 99) : slowRow t.enc (v : Int) = slowI v t := by
  rw [slowRow, if_pos ⟨h, by omega, by omega⟩, of_enc]; rfl
theorem mostRow_enc {t : T} (h : vldB t.enc = true) : mostRow t.enc = t.most := by rw [mostRow, if_pos h, of_enc]
theorem slowI_in {b : Nat} {t : T} (h : t.slow b ≤ 1000000000) : slowI b t = (t.slow b : Int) := if_pos h

theorem base_slow {n b : Int} (h : baseRow n b ≠ []) : slowRow (baseRow n b) b = n := by
  obtain ⟨N, B, rfl, rfl, h1, h2, h3, h4, h5⟩ := base_some h
  obtain ⟨p1, p2, p3⟩ := ordB_props (N := N) h2 h3
  rw [h4, slowRow_enc h5 (by omega) (by omega), slowI_in (by omega), p3]
theorem base_ok {n b : Int} (h : baseRow n b ≠ []) : vldB (baseRow n b) = true ∧ baseOk (baseRow n b) b = true := by
  obtain ⟨N, B, rfl, rfl, h1, h2, h3, h4, h5⟩ := base_some h
  obtain ⟨p1, p2, p3⟩ := ordB_props (N := N) h2 h3
  rw [h4, baseOk, h5, mostRow_enc h5, decide_eq_true p2, decide_eq_true (by omega)]
  exact ⟨rfl, rfl⟩
theorem base_cmp {n m b : Int} (h : baseRow n b ≠ []) (h' : baseRow m b ≠ []) : cmpRow (baseRow n b) (baseRow m b) = if n < m then -1 else if m < n then 1 else 0 := by
  obtain ⟨N, B, rfl, rfl, h1, h2, h3, h4, h5⟩ := base_some h
  obtain ⟨M, B', rfl, hb, k1, k2, k3, k4, k5⟩ := base_some h'
  obtain rfl : B = B' := by omega
  rw [h4, k4, cmpRow_val h5 k5, of_enc, of_enc]
  rcases Nat.lt_trichotomy N M with hlt | rfl | hgt
  · rw [if_pos (by omega)]; exact ordB_lt h2 (M + 1) M (by omega) N hlt
  · rw [if_neg (by omega), if_neg (by omega)]; exact cmp_refl _
  · rw [if_neg (by omega), if_pos (by omega), cmp_swap, ordB_lt h2 (N + 1) N (by omega) M hgt]; rfl

theorem baseOk_some {xs : List Int} {b : Int} (h : baseOk xs b = true) : ∃ (t : T) (B : Nat), xs = t.enc ∧ b = B ∧ 2 ≤ B ∧ B ≤ 90 ∧ vldB t.enc = true ∧ t.most < B := by
  rw [baseOk, Bool.and_eq_true, Bool.and_eq_true, decide_eq_true_iff, decide_eq_true_iff] at h
  obtain ⟨h1, h2, h3⟩ := h
  obtain ⟨_, t, h5, _⟩ := vldB_true.1 h1
  have h6 : xs = t.enc := by first | exact h5 | exact h5.symm
  subst h6
  rw [mostRow_enc h1] at h3
  exact ⟨t, b.toNat, rfl, by omega, by omega, by omega, h1, by omega⟩
theorem baseOk_base {xs : List Int} {b : Int} (h : baseOk xs b = true) : slowRow xs b < 0 ∨ baseRow (slowRow xs b) b = xs := by
  obtain ⟨t, B, rfl, rfl, h2, h3, h4, h5⟩ := baseOk_some h
  rw [slowRow_enc h4 (by omega) (by omega)]
  by_cases hs : t.slow B ≤ 1000000000
  · right; rw [slowI_in hs]; exact baseRow_of h2 h3 h4 h5 hs
  · left; rw [slowI, if_neg hs]; decide
theorem baseOk_next {xs : List Int} {b : Int} (h : baseOk xs b = true) (hb : b ≠ 90) : baseOk xs (b + 1) = true := by
  obtain ⟨t, B, rfl, rfl, h2, h3, h4, h5⟩ := baseOk_some h
  rw [baseOk, h4, mostRow_enc h4, decide_eq_true (by omega), decide_eq_true (by omega)]; rfl

theorem change_some {n a b : Int} (h : 0 ≤ changeI n a b) : baseRow n a ≠ [] ∧ 2 ≤ b ∧ b ≤ 90 ∧ slowRow (baseRow n a) b = changeI n a b := by
  rw [changeI] at h ⊢
  split at h
  · rename_i hb
    refine ⟨fun h0 => ?_, hb.1, hb.2, (if_pos hb).symm⟩
    rw [h0] at h
    have h1 := (slowRow_some h).1
    obtain ⟨_, t, h5, _⟩ := vldB_true.1 h1
    first | exact absurd h5 (enc_ne t) | exact absurd h5.symm (enc_ne t)
  · omega
theorem change_same {n a : Int} (h : baseRow n a ≠ []) : changeI n a a = n := by
  obtain ⟨N, B, rfl, rfl, h1, h2, h3, h4, h5⟩ := base_some h
  rw [changeI, if_pos ⟨by omega, by omega⟩]; exact base_slow h
theorem change_up {n a b : Int} (h : 0 ≤ changeI n a b) (hab : a ≤ b) : n ≤ changeI n a b ∧ baseRow (changeI n a b) b = baseRow n a := by
  obtain ⟨g1, g2, g3, g4⟩ := change_some h
  rw [← g4] at h ⊢
  obtain ⟨N, A, rfl, rfl, h1, h2, h3, h4, h5⟩ := base_some g1
  obtain ⟨p1, p2, p3⟩ := ordB_props (N := N) h2 h3
  obtain ⟨B, rfl⟩ := Int.eq_ofNat_of_zero_le (show 0 ≤ b by omega)
  rw [h4] at h ⊢
  have e := slowRow_enc h5 (show 1 ≤ B by omega) (show B ≤ 99 by omega)
  rw [e] at h ⊢
  by_cases hs : (ordB A N).slow B ≤ 1000000000
  · rw [slowI_in hs]
    have hu := slow_up (show 1 ≤ A by omega) (show A ≤ B by omega) (ordB A N)
    exact ⟨by omega, baseRow_of (by omega) (by omega) h5 (by omega) hs⟩
  · rw [slowI, if_neg hs] at h; omega

theorem slow_strict {b n : Nat} (hb : 2 ≤ b) (hn : b ≤ n) : n + 1 ≤ (ordB b n).slow (b + 1) := by
  obtain ⟨t, h1, h2, h3, h4, h5, h6, h7, h8⟩ := top_ex hb (show 0 < n by omega)
  rw [ordB_eq hb, dig_c (ordB b) hb h1 h2, slow, Int.toNat_natCast, ← ordB_eq hb]
  have ht : t ≠ 0 := by
    intro h0
    subst h0
    rw [Nat.zero_add, Nat.pow_one] at h2
    omega
  have s1 := ordB_slow hb (t + 1) t (by omega)
  have s2 := slow_up (show 1 ≤ b by omega) (show b ≤ b + 1 by omega) (ordB b t)
  have s3 := ordB_slow hb (n % b ^ t + 1) (n % b ^ t) (by omega)
  have s4 := slow_up (show 1 ≤ b by omega) (show b ≤ b + 1 by omega) (ordB b (n % b ^ t))
  have p1 : b ^ t < (b + 1) ^ t := Nat.pow_lt_pow_left (by omega) ht
  have p2 : (b + 1) ^ t ≤ (b + 1) ^ (ordB b t).slow (b + 1) := Nat.pow_le_pow_right (by omega) (by omega)
  have p3 : n / b ^ t * (b ^ t + 1) ≤ n / b ^ t * (b + 1) ^ (ordB b t).slow (b + 1) := Nat.mul_le_mul_left _ (by omega)
  rw [Nat.mul_add, Nat.mul_one] at p3
  omega

theorem good_some {n b : Int} (h : 0 ≤ goodI n b) : 1 ≤ n ∧ 2 ≤ b ∧ b ≤ 89 ∧ changeI n b (b + 1) = goodI n b + 1 := by
  rw [goodI] at h ⊢
  split at h
  · rename_i hc
    rw [if_pos hc]
    exact ⟨hc.1, hc.2.1, hc.2.2.1, by omega⟩
  · omega
theorem good_fall {n b : Int} (h : 0 ≤ goodI n b) : baseRow n b ≠ [] ∧ (baseRow (goodI n b) (b + 1) = [] ∨ cmpRow (baseRow (goodI n b) (b + 1)) (baseRow n b) = -1) ∧ (b ≤ n → n ≤ goodI n b) := by
  obtain ⟨hn, hb1, hb2, hc⟩ := good_some h
  have hc0 : 0 ≤ changeI n b (b + 1) := by omega
  obtain ⟨g1, g2, g3, g4⟩ := change_some hc0
  obtain ⟨_, hback⟩ := change_up hc0 (by omega)
  rw [hc] at hback g4
  refine ⟨g1, ?_, fun hbn => ?_⟩
  · by_cases he : baseRow (goodI n b) (b + 1) = []
    · exact .inl he
    · right
      have hne : baseRow (goodI n b + 1) (b + 1) ≠ [] := by rw [hback]; exact g1
      have h1 := base_cmp he hne
      rw [if_pos (by omega), hback] at h1
      exact h1
  · obtain ⟨N, B, rfl, rfl, h1, h2, h3, h4, h5⟩ := base_some g1
    have h6 := slow_strict h2 (show B ≤ N by omega)
    have e := slowRow_enc h5 (show 1 ≤ B + 1 by omega) (show B + 1 ≤ 99 by omega)
    rw [h4, show ((B : Int) + 1) = ((B + 1 : Nat) : Int) by omega, e] at g4
    rw [show ((B : Int) + 1) = ((B + 1 : Nat) : Int) by omega] at *
    by_cases hs : (ordB B N).slow (B + 1) ≤ 1000000000
    · rw [slowI_in hs] at g4; omega
    · rw [slowI, if_neg hs] at g4; omega

end T
end Go.Proofs.Ytaealfmgmonndaa

/- GoodQ -/
/- What the drawn laws say of Goodstein sequences. -/
namespace Go.Proofs.Ytaealfmgmonndaa
set_option maxRecDepth 100000
namespace T

theorem goods_chain : ∀ (k : Nat) (n b : Int) (i : Nat) (y : Int), (n :: goods k n b)[i + 1]? = some y → ∃ x, (n :: goods k n b)[i]? = some x ∧ y = goodI x (b + i) ∧ 0 ≤ y ∧ x ≠ 0 := by
  intro k
  induction k with
  | zero => intro n b i y h; simp [goods] at h
  | succ k ih =>
    intro n b i y h
    rcases goodI_vals n b with hg | ⟨hg0, hg1⟩
    · rw [goods_end hg] at h; simp at h
    · rw [goods_next hg0] at h ⊢
      cases i with
      | zero =>
        simp only [List.getElem?_cons_succ, List.getElem?_cons_zero, Option.some.injEq] at h
        subst h
        refine ⟨n, rfl, by simp, hg0, fun h0 => ?_⟩
        subst h0
        rw [goodI_zero] at hg0
        omega
      | succ i =>
        rw [List.getElem?_cons_succ] at h
        obtain ⟨x, h1, h2, h3, h4⟩ := ih (goodI n b) (b + 1) i y h
        exact ⟨x, by rw [List.getElem?_cons_succ]; exact h1, by rw [h2, show b + 1 + (i : Int) = b + ((i + 1 : Nat) : Int) by omega], h3, h4⟩
theorem goodRun_chain {n : Int} {i : Nat} {y : Int} (h : (goodRun n)[i + 1]? = some y) : ∃ x, (goodRun n)[i]? = some x ∧ y = goodI x ((i : Int) + 2) ∧ 0 ≤ y ∧ x ≠ 0 := by
  unfold goodRun at h ⊢
  split at h
  · rename_i hc
    rw [if_pos hc]
    obtain ⟨x, h1, h2, h3, h4⟩ := goods_chain 59 n 2 i y h
    exact ⟨x, h1, by rw [h2, Int.add_comm], h3, h4⟩
  · simp at h
theorem goodRun_head {n : Int} (h : 0 ≤ n ∧ n ≤ 1000000000) : (goodRun n)[0]? = some n := by rw [goodRun, if_pos h]; rfl
theorem goodRun_none {n : Int} (h : ¬ (0 ≤ n ∧ n ≤ 1000000000)) : goodRun n = [] := by rw [goodRun, if_neg h]

theorem goods_mem : ∀ (k : Nat) (n b x : Int), x ∈ goods k n b → 0 ≤ x ∧ x ≤ 1000000000 := by
  intro k
  induction k with
  | zero => intro n b x h; cases h
  | succ k ih =>
    intro n b x h
    rw [goods] at h
    split at h
    · cases h
    · rcases List.mem_cons.1 h with h1 | h1
      · rcases goodI_vals n b with h2 | h2
        · omega
        · rw [h1]; exact h2
      · exact ih _ _ _ h1
theorem goodRun_mem {n x : Int} (h : x ∈ goodRun n) : 0 ≤ x ∧ x ≤ 1000000000 := by
  unfold goodRun at h
  split at h
  · rename_i hc
    rcases List.mem_cons.1 h with h1 | h1
    · omega
    · exact goods_mem _ _ _ _ h1
  · cases h
theorem goodRun_cnt (n : Int) : (goodRun n).length ≤ 60 := by
  unfold goodRun
  split
  · simp only [List.length_cons]; have := goods_len 59 n 2; omega
  · simp


end T
end Go.Proofs.Ytaealfmgmonndaa

/- GoodE -/
/- The first Goodstein sequences. -/
namespace Go.Proofs.Ytaealfmgmonndaa
set_option maxRecDepth 100000
namespace T

theorem goodI_of {n b v : Nat} {t : T} (hn : 1 ≤ n) (hn2 : n ≤ 1000000000) (hb : 2 ≤ b) (hb2 : b ≤ 89) (ho : ordB b n = t) (hl : t.enc.length ≤ 60) (hs : t.slow (b + 1) = v) (hv : v ≤ 1000000000) : goodI (n : Int) (b : Int) = (v : Int) - 1 := by
  have hnf := ordB_nf hb (by omega) (n + 1) n (by omega)
  rw [ho] at hnf
  have hvl : vldB t.enc = true := vldB_true.2 ⟨hl, t, rfl, hnf⟩
  have h1 : baseRow (n : Int) (b : Int) = t.enc := by rw [baseRow_in hn2 hb (by omega), ho, fit, if_pos hvl]
  have h2 : changeI (n : Int) (b : Int) ((b : Int) + 1) = (v : Int) := by
    rw [changeI, if_pos ⟨by omega, by omega⟩, h1, show ((b : Int) + 1) = ((b + 1 : Nat) : Int) by omega, slowRow_enc hvl (by omega) (by omega), slowI_in (by omega), hs]
  rw [goodI, h2, if_pos ⟨by omega, by omega, by omega, by omega⟩]
theorem ordB_low {n b : Nat} (hb : 2 ≤ b) (hn : 1 ≤ n) (h : n < b) : ordB b n = c (n : Int) z z := by
  rw [ordB_eq hb, dig_c (t := 0) (ordB b) hb (by simpa using hn) (by simpa using h), Nat.pow_zero, Nat.div_one, Nat.mod_one, dig_z, ordB_z]
theorem goodI_low {n b : Nat} (hn : 1 ≤ n) (h : n < b) (hb2 : b ≤ 89) : goodI (n : Int) (b : Int) = (n : Int) - 1 :=
  goodI_of hn (by omega) (by omega) hb2 (ordB_low (by omega) hn h) (by simp [enc, body]) (by simp [slow]) (by omega)
theorem goodI_same {b : Nat} (hb : 2 ≤ b) (hb2 : b ≤ 89) : goodI (b : Int) (b : Int) = (b : Int) := by
  have ho : ordB b b = c 1 (c 1 z z) z := by
    rw [ordB_eq hb, dig_c (t := 1) (ordB b) hb (by rw [Nat.pow_one]; exact Nat.le_refl _) (by rw [Nat.pow_succ, Nat.pow_one]; exact Nat.lt_of_lt_of_le (show b < b * 2 by omega) (Nat.mul_le_mul_left _ hb)), Nat.pow_one, Nat.div_self (by omega), Nat.mod_self, dig_z, ordB_low hb (Nat.le_refl 1) (by omega)]
    rfl
  rw [goodI_of (v := b + 1) (by omega) (by omega) hb hb2 ho (by simp [enc, body]) (by simp [slow]) (by omega)]
  omega
theorem goodI_32 : goodI 3 2 = 3 := by
  have ho : ordB 2 3 = c 1 (c 1 z z) (c 1 z z) := by
    have h1 : ordB 2 1 = c 1 z z := ordB_low (by decide) (by decide) (by decide)
    rw [ordB_eq (by decide), dig_c (t := 1) (ordB 2) (by decide) (by decide) (by decide), h1]
    rw [show (3 : Nat) % 2 ^ 1 = 1 from rfl, show (3 : Nat) / 2 ^ 1 = 1 from rfl, ← ordB_eq (by decide), h1]
    rfl
  exact goodI_of (v := 4) (n := 3) (b := 2) (by decide) (by decide) (by decide) (by decide) ho (by simp [enc, body]) (by simp [slow]) (by decide)
theorem goodI_22 : goodI 2 2 = 2 := goodI_same (b := 2) (by decide) (by decide)
theorem goodI_33 : goodI 3 3 = 3 := goodI_same (b := 3) (by decide) (by decide)
theorem goodI_23 : goodI 2 3 = 1 := goodI_low (n := 2) (b := 3) (by decide) (by decide) (by decide)
theorem goodI_34 : goodI 3 4 = 2 := goodI_low (n := 3) (b := 4) (by decide) (by decide) (by decide)
theorem goodI_25 : goodI 2 5 = 1 := goodI_low (n := 2) (b := 5) (by decide) (by decide) (by decide)
theorem goodI_16 : goodI 1 6 = 0 := goodI_low (n := 1) (b := 6) (by decide) (by decide) (by decide)
theorem goodI_14 : goodI 1 4 = 0 := goodI_low (n := 1) (b := 4) (by decide) (by decide) (by decide)
theorem goodI_12 : goodI 1 2 = 0 := goodI_low (n := 1) (b := 2) (by decide) (by decide) (by decide)
theorem goods_go {k : Nat} {n b g : Int} (h : goodI n b = g) (hg : 0 ≤ g) : goods (k + 1) n b = g :: goods k g (b + 1) := by
  rw [goods_next (by omega), h]
theorem run0 : goodRun 0 = [0] := by rw [goodRun, if_pos (by decide), goods_end (goodI_zero 2)]
theorem run1 : goodRun 1 = [1, 0] := by
  rw [goodRun, if_pos (by decide), goods_go goodI_12 (by decide), goods_end (goodI_zero _)]
theorem run2 : goodRun 2 = [2, 2, 1, 0] := by
  rw [goodRun, if_pos (by decide), goods_go goodI_22 (by decide), goods_go (show goodI 2 (2 + 1) = 1 from goodI_23) (by decide), goods_go (show goodI 1 (2 + 1 + 1) = 0 from goodI_14) (by decide), goods_end (goodI_zero _)]
theorem run3 : goodRun 3 = [3, 3, 3, 2, 1, 0] := by
  rw [goodRun, if_pos (by decide), goods_go goodI_32 (by decide), goods_go (show goodI 3 (2 + 1) = 3 from goodI_33) (by decide), goods_go (show goodI 3 (2 + 1 + 1) = 2 from goodI_34) (by decide), goods_go (show goodI 2 (2 + 1 + 1 + 1) = 1 from goodI_25) (by decide),
    goods_go (show goodI 1 (2 + 1 + 1 + 1 + 1) = 0 from goodI_16) (by decide), goods_end (goodI_zero _)]
theorem end0 : goodEnd 0 = 1 := by rw [goodEnd_some (xs := []) (x := 0) run0]; rfl
theorem end1 : goodEnd 1 = 2 := by rw [goodEnd_some (xs := [1]) (x := 0) run1]; rfl
theorem end2 : goodEnd 2 = 4 := by rw [goodEnd_some (xs := [2, 2, 1]) (x := 0) run2]; rfl
theorem end3 : goodEnd 3 = 6 := by rw [goodEnd_some (xs := [3, 3, 3, 2, 1]) (x := 0) run3]; rfl

end T
end Go.Proofs.Ytaealfmgmonndaa

/- GoodP -/
/- What FnPlainOrd says, on rows. -/
namespace Go.Proofs.Ytaealfmgmonndaa
set_option maxRecDepth 100000
namespace T

theorem plain_some {n b : Int} (h : plainRow n b ≠ []) : ∃ (N B : Nat), n = N ∧ b = B ∧ N ≤ 1000000000 ∧ 2 ≤ B ∧ B ≤ 90 ∧ plainRow n b = (dig numT B N).enc ∧ vldB (dig numT B N).enc = true := by
  unfold plainRow at h ⊢
  split at h
  · rename_i hc
    rw [if_pos hc]
    rw [fit] at h ⊢
    split at h
    · rename_i hv
      rw [if_pos hv]
      exact ⟨n.toNat, b.toNat, by omega, by omega, by omega, by omega, by omega, rfl, hv⟩
    · exact absurd rfl h
  · exact absurd rfl h
theorem plain_slow {N B : Nat} (hB : 2 ≤ B) (hB2 : B ≤ 90) (hN : N ≤ 1000000000) (hv : vldB (dig numT B N).enc = true) : slowRow (dig numT B N).enc (B : Int) = (N : Int) := by
  have h1 := dig_slow (f := numT) hB (N + 1) N (by omega) (fun e _ => numT_slow B e)
  rw [slowRow_enc hv (by omega) (by omega), slowI_in (by omega), h1]
theorem plain_same {N B : Nat} (hB : 2 ≤ B) (h : N < B ^ B) : dig numT B N = ordB B N := by
  rw [ordB_eq hB]
  refine dig_congr hB (N + 1) N (by omega) (fun e he => ?_)
  have h1 : e < B := (pow_lt_iff hB).1 (Nat.lt_of_le_of_lt he h)
  unfold numT
  split
  · rename_i h0; rw [h0, ordB_z]
  · exact (ordB_low hB (by omega) h1).symm
theorem plain_base {N B : Nat} (hB : 2 ≤ B) (hB2 : B ≤ 90) (hN : N ≤ 1000000000) (hv : vldB (dig numT B N).enc = true) (h : N < B ^ B) : baseRow (N : Int) (B : Int) = (dig numT B N).enc := by
  rw [baseRow_in hN hB hB2, ← plain_same hB h, fit, if_pos hv]

end T
end Go.Proofs.Ytaealfmgmonndaa

/- GoodX -/
/- What FnPlainNext says, on rows. -/
namespace Go.Proofs.Ytaealfmgmonndaa
set_option maxRecDepth 100000
namespace T

theorem rd_split {b d : Nat} (hb : 2 ≤ b) (hd : d < b) : ∀ t m, m < b ^ t → rd b (d * b ^ t + m) = d * (b + 1) ^ t + rd b m := by
  intro t
  induction t with
  | zero =>
    intro m h
    have h0 : m = 0 := by simpa using h
    subst h0
    rw [Nat.pow_zero, Nat.pow_zero, Nat.mul_one, Nat.add_zero, rd_eq hb, Nat.div_eq_of_lt hd, rd_z, Nat.mod_eq_of_lt hd, Nat.mul_zero]
  | succ t ih =>
    intro m h
    have h1 : m / b < b ^ t := (Nat.div_lt_iff_lt_mul (by omega)).2 (by rw [← Nat.pow_succ]; exact h)
    have e1 : d * b ^ (t + 1) + m = m + b * (d * b ^ t) := by rw [Nat.pow_succ, Nat.add_comm, Nat.mul_comm (b ^ t) b, ← Nat.mul_assoc, Nat.mul_comm d b, Nat.mul_assoc]
    have e2 : (d * b ^ (t + 1) + m) % b = m % b := by rw [e1, Nat.add_mul_mod_self_left]
    have e3 : (d * b ^ (t + 1) + m) / b = d * b ^ t + m / b := by rw [e1, Nat.add_mul_div_left _ _ (by omega), Nat.add_comm]
    rw [rd_eq hb (d * b ^ (t + 1) + m), e2, e3, ih _ h1, Nat.mul_add, rd_eq hb m, Nat.pow_succ]
    have e4 : (b + 1) * (d * (b + 1) ^ t) = d * ((b + 1) ^ t * (b + 1)) := by simp only [Nat.mul_comm, Nat.mul_left_comm]
    rw [e4]
    omega
theorem rd_lt {b : Nat} (hb : 2 ≤ b) : ∀ t m, m < b ^ t → rd b m < (b + 1) ^ t := by
  intro t
  induction t with
  | zero =>
    intro m h
    have h0 : m = 0 := by simpa using h
    subst h0
    rw [rd_z]; simp
  | succ t ih =>
    intro m h
    have h1 := ih (m / b) ((Nat.div_lt_iff_lt_mul (by omega)).2 (by rw [← Nat.pow_succ]; exact h))
    have h2 : m % b < b := Nat.mod_lt _ (by omega)
    have h3 : (b + 1) * (rd b (m / b) + 1) ≤ (b + 1) * (b + 1) ^ t := Nat.mul_le_mul_left _ h1
    rw [rd_eq hb, Nat.pow_succ, Nat.mul_comm ((b + 1) ^ t)]
    rw [Nat.mul_add, Nat.mul_one] at h3
    omega
theorem rd_top {b n : Nat} (hb : 2 ≤ b) (hn : 0 < n) : ∃ t d m, b ^ t ≤ n ∧ n < b ^ (t + 1) ∧ d = n / b ^ t ∧ m = n % b ^ t ∧ 1 ≤ d ∧ d < b ∧ m < b ^ t ∧ m < n ∧ rd b n = d * (b + 1) ^ t + rd b m := by
  obtain ⟨t, h1, h2, h3, h4, h5, h6, h7, h8⟩ := top_ex hb hn
  refine ⟨t, n / b ^ t, n % b ^ t, h1, h2, rfl, rfl, h3, h4, h5, h6, ?_⟩
  rw [← rd_split hb h4 t _ h5, ← h7]
theorem rd_pos {b n : Nat} (hb : 2 ≤ b) (hn : 0 < n) : 1 ≤ rd b n := by
  obtain ⟨t, d, m, _, _, _, _, h3, _, _, _, h7⟩ := rd_top hb hn
  have h8 : 1 * 1 ≤ d * (b + 1) ^ t := Nat.mul_le_mul h3 (Nat.pow_pos (by omega))
  omega
/-- The same digits in the next base have the same terms. -/
theorem dig_rd {f : Nat → T} {b : Nat} (hb : 2 ≤ b) : ∀ N n, n < N → dig f (b + 1) (rd b n) = dig f b n := by
  intro N
  induction N with
  | zero => intro n h; omega
  | succ N ih =>
    intro n hN
    rcases Nat.eq_zero_or_pos n with rfl | hn
    · rw [rd_z, dig_z, dig_z]
    · obtain ⟨t, d, m, h1, h2, hd, hm, h3, h4, h5, h6, h7⟩ := rd_top hb hn
      have h8 := rd_lt hb t m h5
      have h9 : 1 * (b + 1) ^ t ≤ d * (b + 1) ^ t := Nat.mul_le_mul_right _ h3
      have h10 : (d + 1) * (b + 1) ^ t ≤ (b + 1) * (b + 1) ^ t := Nat.mul_le_mul_right _ (by omega)
      have h11 : rd b n < (b + 1) ^ (t + 1) := by
        rw [Nat.pow_succ, Nat.mul_comm]
        rw [Nat.add_mul, Nat.one_mul] at h10
        omega
      rw [dig_c (t := t) f (show 2 ≤ b + 1 by omega) (by omega) h11, dig_c f hb h1 h2, ← hd, ← hm]
      have e1 : rd b n / (b + 1) ^ t = d := by
        rw [h7, Nat.mul_comm, Nat.mul_add_div (Nat.pow_pos (by omega)), Nat.div_eq_of_lt h8, Nat.add_zero]
      have e2 : rd b n % (b + 1) ^ t = rd b m := by
        rw [h7, Nat.mul_comm, Nat.mul_add_mod, Nat.mod_eq_of_lt h8]
      rw [e1, e2, ih m (by omega)]
/-- Exponents that grow, too, make more. -/
theorem rd_slow {b : Nat} (hb : 2 ≤ b) : ∀ N n, n < N → rd b n ≤ (ordB b n).slow (b + 1) := by
  intro N
  induction N with
  | zero => intro n h; omega
  | succ N ih =>
    intro n hN
    rcases Nat.eq_zero_or_pos n with rfl | hn
    · rw [rd_z]; exact Nat.zero_le _
    · obtain ⟨t, d, m, h1, h2, hd, hm, h3, h4, h5, h6, h7⟩ := rd_top hb hn
      rw [ordB_eq hb, dig_c (ordB b) hb h1 h2, slow, Int.toNat_natCast, ← ordB_eq hb, ← hd, ← hm, h7]
      have s1 := ordB_slow hb (t + 1) t (by omega)
      have s2 := slow_up (show 1 ≤ b by omega) (show b ≤ b + 1 by omega) (ordB b t)
      have p2 : (b + 1) ^ t ≤ (b + 1) ^ (ordB b t).slow (b + 1) := Nat.pow_le_pow_right (by omega) (by omega)
      have p3 := Nat.mul_le_mul_left d p2
      have p4 := ih m (by omega)
      omega

theorem plainI_vals (n b : Int) : plainI n b = -1 ∨ 0 ≤ plainI n b ∧ plainI n b ≤ 1000000000 := by
  by_cases h : (1 ≤ n ∧ n ≤ 1000000000) ∧ 2 ≤ b ∧ b ≤ 89
  · obtain ⟨N, rfl⟩ := Int.eq_ofNat_of_zero_le (show 0 ≤ n by omega)
    obtain ⟨B, rfl⟩ := Int.eq_ofNat_of_zero_le (show 0 ≤ b by omega)
    have h0 := rd_pos (b := B) (n := N) (by omega) (by omega)
    rw [plainI_in (by omega) (by omega) (by omega) (by omega)]
    split
    · right; omega
    · exact .inl rfl
  · exact .inl (plainI_out h)
theorem plain_good {n b : Int} (hg : 0 ≤ goodI n b) : 0 ≤ plainI n b ∧ plainI n b ≤ goodI n b := by
  obtain ⟨hn, hb1, hb2, hc⟩ := good_some hg
  have hc0 : 0 ≤ changeI n b (b + 1) := by omega
  obtain ⟨g1, g2, g3, g4⟩ := change_some hc0
  obtain ⟨N, B, rfl, rfl, h1, h2, h3, h4, h5⟩ := base_some g1
  have e := slowRow_enc h5 (show 1 ≤ B + 1 by omega) (show B + 1 ≤ 99 by omega)
  have hgi := goodI_vals (N : Int) (B : Int)
  rw [h4, show ((B : Int) + 1) = ((B + 1 : Nat) : Int) by omega, e] at g4
  rw [show ((B : Int) + 1) = ((B + 1 : Nat) : Int) by omega] at hc hc0
  have h6 := rd_slow h2 (N + 1) N (by omega)
  have h7 := rd_pos (b := B) (n := N) h2 (by omega)
  rw [plainI_in (by omega) h1 h2 (by omega)]
  by_cases hs : (ordB B N).slow (B + 1) ≤ 1000000000
  · rw [slowI_in hs] at g4
    rw [if_pos (by omega)]
    omega
  · rw [slowI, if_neg hs] at g4; omega
theorem plain_fall {n b : Int} (h : 0 ≤ plainI n b) (h1 : plainRow (plainI n b) (b + 1) ≠ []) (h2 : plainRow n b ≠ []) : cmpRow (plainRow (plainI n b) (b + 1)) (plainRow n b) = -1 := by
  obtain ⟨N, B, rfl, rfl, k1, k2, k3, k4, k5⟩ := plain_some h2
  by_cases hin : (1 ≤ (N : Int) ∧ (N : Int) ≤ 1000000000) ∧ 2 ≤ (B : Int) ∧ (B : Int) ≤ 89
  · have hp := plainI_in (b := B) (n := N) (by omega) k1 k2 (by omega)
    have h7 := rd_pos (b := B) (n := N) k2 (by omega)
    have hpe : plainI (N : Int) (B : Int) = ((rd B N - 1 : Nat) : Int) := by
      rw [hp] at h ⊢
      split at h
      · rename_i hc; rw [if_pos hc]; omega
      · omega
    rw [hpe] at h1 ⊢
    obtain ⟨M, C, e1, e2, m1, m2, m3, m4, m5⟩ := plain_some h1
    obtain rfl : M = rd B N - 1 := by omega
    obtain rfl : C = B + 1 := by omega
    rw [m4, k4, cmpRow_val m5 k5, of_enc, of_enc, ← dig_rd k2 (N + 1) N (by omega)]
    exact dig_lt (show 2 ≤ B + 1 by omega) (rd B N + 1) (rd B N) (by omega) (fun e e' he _ => numT_lt he) _ (by omega)
  · rw [plainI_out hin] at h; omega

end T
end Go.Proofs.Ytaealfmgmonndaa

/- PlainI -/
/- PlainNext: the program's and the model's answers. -/
namespace Go.Proofs.Ytaealfmgmonndaa
set_option maxRecDepth 100000
open Go.RowKit

theorem wrap_big (q : Nat) (h : q ≤ 1000000000000000000) : wrap64 (q : Int) = q := wrap_in (by omega) (by omega)
theorem mul_big (x b y : Nat) (h : y = x * b) (hy : y ≤ 1000000000000000000) : wrap64 ((x : Int) * (b : Int)) = (y : Int) := by
  rw [show (x : Int) * (b : Int) = (y : Int) by rw [h]; exact (Int.natCast_mul _ _).symm]; exact wrap_big _ hy
theorem add_big (x b y : Nat) (h : y = x + b) (hy : y ≤ 1000000000000000000) : wrap64 ((x : Int) + (b : Int)) = (y : Int) := by
  rw [show (x : Int) + (b : Int) = (y : Int) by rw [h]; exact (Int.natCast_add _ _).symm]; exact wrap_big _ hy

set_option maxHeartbeats 1000000 in
theorem readDigits_any (n b B L : Nat) (a : Option Addr) (c base : Nat) (w : World) (hb : 2 ≤ b) (hb2 : b ≤ 89) (hB : B = b + 1) (hn : n ≤ 1000000000) (hL : L = (T.digs b n).length)
    (ho : w.ownsRow base 3 1 (.slice a L c) L (ints (T.digI b n))) :
    Calls Try.prog 56 #[.slice a L c, .int .i64 B] w fun e w' => e = .returned (.int .i64 (T.rd b n)) ∧ w = w' := by
  have hL30 : L ≤ 30 := by rw [hL]; exact T.digs_cnt hb hn
  have HL := Lib.hid hL
  have HO := Lib.hid ho
  have HB := Lib.hid hB
  have hB91 : B ≤ 91 := by omega
  have hstart : T.rd b (n / b ^ L) = 0 := by rw [Nat.div_eq_of_lt (by rw [hL]; exact T.digs_pow hb (n + 1) n (by omega)), T.rd_z]
  have Hst := Lib.hid hstart
  clear hL ho hB hstart
  go_enter Try.func56, Try.ntmps56
  go_wp2_with fail
  go_loopg [5, 10] L (fun gk v5 v10 wr => ∃ (i v : Nat), w = wr ∧ v5 = .int .i64 v ∧ v10 = .int .i64 i ∧ gk + i = L ∧ Hid (v = T.rd b (n / b ^ gk)))
  case atStart => exact ⟨0, 0, rfl, rfl, rfl, rfl, Lib.hid Hst.out.symm⟩
  case round =>
    obtain ⟨i, v, rfl, rfl, rfl, hgk, HV⟩ := hrel
    by_cases hlt : i < L
    · obtain ⟨t, ht⟩ : ∃ t, gk = t + 1 := ⟨gk - 1, by omega⟩
      subst ht
      obtain ⟨g, c', hv⟩ := Joins.ownsRow_form HO.out (by omega)
      simp only [Value.slice.injEq] at hv
      obtain ⟨rfl, _, rfl⟩ := hv
      obtain ⟨d, hd⟩ : ∃ d, d = n / b ^ t % b := ⟨_, rfl⟩
      have y0 : w.cell? ⟨g, i, none⟩ = some (.int .i64 d) := by
        refine (HO.out.cellAt i (by omega)).trans ?_
        rw [ints, List.getElem?_map, T.digI_get (t := t) hb (by have := HL.out; omega), hd]
        rfl
      have hst := T.rd_step (n := n) (t := t) hb
      have hbd := T.rd_bound (n := n / b ^ t) hb (Nat.le_trans (Nat.div_le_self _ _) hn)
      rw [← HV.out, ← hd, ← HB.out] at hst
      obtain ⟨x, hx⟩ : ∃ x, x = v * B := ⟨_, rfl⟩
      obtain ⟨y, hy⟩ : ∃ y, y = x + d := ⟨_, rfl⟩
      have hyv : T.rd b (n / b ^ t) = y := by rw [hst, hy, hx, Nat.mul_comm B v, Nat.add_comm]
      rw [hyv] at hbd
      have hxw := mul_big v B x hx (by omega)
      have hyw := add_big x d y hy (by omega)
      have HY := Lib.hid hyv.symm
      clear hd hst hx hy hyv
      go_wp2_with fail
      go_roundg t
      case measure => clear hxw hyw; omega
      case rel =>
        refine ⟨i + 1, y, rfl, congrArg (Value.int .i64) hyw, ?_, by clear hxw hyw; omega, HY⟩
        clear hxw hyw
        go_num
    · obtain rfl : gk = 0 := by omega
      have HF := Lib.hid (show (v : Int) = (T.rd b n : Int) by rw [HV.out, Nat.pow_zero, Nat.div_one])
      go_wp2_with fail
      go_ret
      exact ⟨ret_int HF.out, rfl⟩

theorem impl_PlainNext (n b : Int) (w : World) (hn0 : -9223372036854775808 ≤ n) (hn1 : n ≤ 9223372036854775807) (hb0 : -9223372036854775808 ≤ b) (hb1 : b ≤ 9223372036854775807) :
    Calls Try.prog 25 #[.int .i64 n, .int .i64 b] w fun e w' => e = .returned (.int .i64 (T.plainI n b)) ∧ Below w.heap.size w w' := by
  have k1 := Lib.hid (mayFollow_any n b w)
  by_cases h : (1 ≤ n ∧ n ≤ 1000000000) ∧ 2 ≤ b ∧ b ≤ 89
  · rw [decide_eq_true h] at k1
    obtain ⟨m, rfl⟩ := Int.eq_ofNat_of_zero_le (show 0 ≤ n by omega)
    obtain ⟨q, rfl⟩ := Int.eq_ofNat_of_zero_le (show 0 ≤ b by omega)
    have hm1 : 1 ≤ m := by omega
    have hm2 : m ≤ 1000000000 := by omega
    have hq1 : 2 ≤ q := by omega
    have hq2 : q ≤ 89 := by omega
    have k2 := Lib.hid (digitsOf_any m q w hq1 (by omega) hm2)
    have hbd := T.rd_bound hq1 hm2
    have k3 := Lib.hid (fun a c wx ho => readDigits_any m q (q + 1) (T.digs q m).length a c w.heap.size wx hq1 hq2 rfl hm2 rfl ho)
    have hpl := T.plainI_in hm1 hm2 hq1 hq2
    obtain ⟨r, hr⟩ : ∃ r, r = T.rd q m := ⟨_, rfl⟩
    rw [← hr] at hbd k3 hpl
    rw [hpl]
    have hq3 : ((q : Int) + 1) = ((q + 1 : Nat) : Int) := by omega
    rw [← hq3] at k3
    clear h hr hpl hq3 hn0 hn1 hb0 hb1
    go_enter Try.func25, Try.ntmps25
    go_wp2_with fail
    refine (k1.out).mono ?_
    rintro ee wx ⟨rfl, rfl⟩
    go_wp2_with fail
    refine (k2.out).mono ?_
    rintro ee w2 ⟨a2, c2, rfl, ho2, hb2⟩
    have Hb2 := Lib.hid hb2
    have k4 := Lib.hid (k3.out a2 c2 w2 ho2)
    clear hb2 ho2
    go_wp2_with fail
    refine (k4.out).mono ?_
    rintro ee wx ⟨rfl, rfl⟩
    by_cases hg : (r : Int) - 1 ≤ 1000000000
    · go_wp2_with fail
      go_ret
      exact ⟨rfl, Hb2.out⟩
    · go_wp2_with fail
      go_ret
      exact ⟨rfl, Hb2.out⟩
  · rw [decide_eq_false h] at k1
    rw [T.plainI_out h]
    clear h
    go_enter Try.func25, Try.ntmps25
    go_wp2_with fail
    refine (k1.out).mono ?_
    rintro ee wx ⟨rfl, rfl⟩
    go_wp2_with fail
    go_ret
    exact ⟨rfl, Below.refl _ _⟩

end Go.Proofs.Ytaealfmgmonndaa

/- PlainS -/
/- PlainNext: the model's answer. -/
namespace Go.Proofs.Ytaealfmgmonndaa
set_option maxRecDepth 100000
open Go.RowKit

theorem plain_over {b n s p m : Nat} (hR : T.rd b n = s + p * T.rd b m) (hp : 1000000000 < p) (hne : p ≠ 1000000001) (hb : 2 ≤ b) (hd : 0 < m % b) : 1000000000 < (T.rd b n : Int) - 1 := by
  have h1 : 1 ≤ T.rd b m := by rw [T.rd_eq hb]; omega
  have h2 : p * 1 ≤ p * T.rd b m := Nat.mul_le_mul_left _ h1
  rw [Nat.mul_one] at h2
  omega

set_option maxHeartbeats 4000000 in
theorem spec_PlainNext (n b : Int) (w : World) (hn0 : -9223372036854775808 ≤ n) (hn1 : n ≤ 9223372036854775807) (hb0 : -9223372036854775808 ≤ b) (hb1 : b ≤ 9223372036854775807) :
    Calls Try.prog 26 #[.int .i64 n, .int .i64 b] w fun e w' => e = .returned (.int .i64 (T.plainI n b)) ∧ Below w.heap.size w w' := by
  by_cases h : (1 ≤ n ∧ n ≤ 1000000000) ∧ 2 ≤ b ∧ b ≤ 89
  · obtain ⟨N, rfl⟩ := Int.eq_ofNat_of_zero_le (show 0 ≤ n by omega)
    obtain ⟨B, rfl⟩ := Int.eq_ofNat_of_zero_le (show 0 ≤ b by omega)
    have hm1 : 1 ≤ N := by omega
    have hm2 : N ≤ 1000000000 := by omega
    have hq1 : 2 ≤ B := by omega
    have hq2 : B ≤ 89 := by omega
    have ki := Lib.hid (l1In_yes N 1 1000000000 w (by omega) (by omega))
    have kr := Lib.hid (l1In_yes B 2 89 w (by omega) (by omega))
    have hpl := T.plainI_in hm1 hm2 hq1 hq2
    rw [hpl]
    have hyes : (T.rd B N : Int) - 1 ≤ 1000000000 → (if (T.rd B N : Int) - 1 ≤ 1000000000 then (T.rd B N : Int) - 1 else -1) = (T.rd B N : Int) - 1 := fun h => if_pos h
    have hno : 1000000000 < (T.rd B N : Int) - 1 → (if (T.rd B N : Int) - 1 ≤ 1000000000 then (T.rd B N : Int) - 1 else -1) = -1 := fun h => if_neg (by omega)
    obtain ⟨res, hres⟩ : ∃ res : Int, res = if (T.rd B N : Int) - 1 ≤ 1000000000 then (T.rd B N : Int) - 1 else -1 := ⟨_, rfl⟩
    rw [← hres] at hyes hno ⊢
    have HY := Lib.hid hyes
    have HN := Lib.hid hno
    clear h hpl hres hyes hno hn0 hn1 hb0 hb1
    go_enter Try.func26, Try.ntmps26
    go_wp2_with fail
    refine (ki.out).mono ?_
    rintro ee wx ⟨rfl, rfl⟩
    go_wp2_with fail
    refine (kr.out).mono ?_
    rintro ee wx ⟨rfl, rfl⟩
    go_wp2_with fail
    go_loopw [0, 5, 6] (fun v0 v5 v6 wr => ∃ (m s p : Nat), w = wr ∧ v0 = .int .i64 m ∧ v5 = .int .i64 s ∧ v6 = .int .i64 p ∧ m ≤ 1000000000 ∧ s ≤ 1000000001 ∧ Hid (∃ k, p = (B + 1) ^ k ∧ m = N / B ^ k) ∧ Hid (T.rd B N = s + p * T.rd B m)) (fun v0 _ _ _ => (intOf v0).toNat)
    case atStart => exact ⟨N, 0, 1, rfl, rfl, rfl, rfl, hm2, by omega, Lib.hid ⟨0, rfl, by rw [Nat.pow_zero, Nat.div_one]⟩, Lib.hid (by omega)⟩
    case round =>
      obtain ⟨m, s, p, rfl, rfl, rfl, rfl, hm9, hs9, HK, HR⟩ := hrel
      by_cases hm0 : 0 < m
      · have hpb : p ≤ 200000000000000 := by
          obtain ⟨k, h1, h2⟩ := HK.out
          rw [h1]
          refine T.pow_bound hq1 (Nat.le_trans ?_ hm2)
          rcases Nat.lt_or_ge N (B ^ k) with h3 | h3
          · rw [Nat.div_eq_of_lt h3] at h2; omega
          · exact h3
        have Hne := Lib.hid (show p ≠ 1000000001 by obtain ⟨k, h1, _⟩ := HK.out; rw [h1]; exact T.pow_ne (by omega))
        obtain ⟨d, hd⟩ : ∃ d, d = m % B := ⟨_, rfl⟩
        obtain ⟨mb, hmb⟩ : ∃ mb, mb = m / B := ⟨_, rfl⟩
        have Hd := Lib.hid hd
        have hd89 : d < 89 := by rw [hd]; exact Nat.lt_of_lt_of_le (Nat.mod_lt _ (by omega)) hq2
        have hmbm : mb < m := by rw [hmb]; exact Nat.div_lt_self hm0 (by omega)
        have hrw := rem_nat m B d hd hm9
        have hri : (m : Int) % (B : Int) = (d : Int) := by rw [nat_mod, hd]
        obtain ⟨x, hx⟩ : ∃ x, x = d * p := ⟨_, rfl⟩
        have hxb : x ≤ 17800000000000000 := by rw [hx]; exact Nat.mul_le_mul (show d ≤ 89 by omega) hpb
        obtain ⟨s2, hs2⟩ : ∃ s2, s2 = s + x := ⟨_, rfl⟩
        have hs2b : s2 ≤ 1000000000000000000 := by omega
        obtain ⟨p2, hp2⟩ : ∃ p2, p2 = p * (B + 1) := ⟨_, rfl⟩
        have hp2b : p2 ≤ 18000000000000000 := by rw [hp2]; exact Nat.mul_le_mul hpb (show B + 1 ≤ 90 by omega)
        have hR2 : T.rd B N = s2 + p2 * T.rd B mb := by
          rw [HR.out, T.rd_eq hq1 m, ← hd, ← hmb, hs2, hx, hp2, Nat.mul_add, Nat.mul_assoc, Nat.mul_comm d p, Nat.add_assoc]
        have HR2 := Lib.hid hR2
        have HK2 := Lib.hid (show ∃ k, p2 = (B + 1) ^ k ∧ mb = N / B ^ k by
          obtain ⟨k, h1, h2⟩ := HK.out
          exact ⟨k + 1, by rw [hp2, h1, Nat.pow_succ], by rw [hmb, h2, Nat.div_div_eq_div_mul, ← Nat.pow_succ]⟩)
        have hxw := mul_big d p x hx (by omega)
        have hsw := add_big s x s2 hs2 hs2b
        have hpw0 := mul_big p (B + 1) p2 hp2 (by omega)
        have hpw : wrap64 ((p : Int) * ((B : Int) + 1)) = (p2 : Int) := by rw [← hpw0]; rfl
        have hqw := quo_nat m B mb hmb hm9
        have HXW := Lib.hid hxw
        have HSW := Lib.hid hsw
        have HPW := Lib.hid hpw
        have HQW := Lib.hid hqw
        clear hd hmb hx hs2 hp2 hR2 hpw0 hxw hsw hpw hqw
        by_cases hbad : 0 < d ∧ 1000000000 < p
        · have hfin := Lib.hid (HN.out (plain_over HR.out hbad.2 Hne.out hq1 (by rw [← Hd.out]; exact hbad.1)))
          obtain ⟨hd0, hp0⟩ := hbad
          go_wp2_with fail
          go_ret
          exact ⟨ret_int hfin.out.symm, Below.refl _ _⟩
        · by_cases hs3 : 1000000001 < s2
          · have hfin := Lib.hid (HN.out (by
              have h1 := HR2.out
              clear hrw hri
              have h2 : s2 ≤ T.rd B N := by rw [h1]; exact Nat.le_add_right _ _
              omega))
            by_cases hd0 : 0 < d
            · have hp0 : ¬ 1000000000 < p := fun k => hbad ⟨hd0, k⟩
              clear hbad
              go_upto_region 9 with fail
              rw [HXW.out, HSW.out]
              go_wp2_with fail
              go_ret
              exact ⟨ret_int hfin.out.symm, Below.refl _ _⟩
            · clear hbad
              go_upto_region 9 with fail
              rw [HXW.out, HSW.out]
              go_wp2_with fail
              go_ret
              exact ⟨ret_int hfin.out.symm, Below.refl _ _⟩
          · have hcase : (0 < d ∧ ¬ 1000000000 < p) ∨ ¬ 0 < d := by
              by_cases hd0 : 0 < d
              · exact .inl ⟨hd0, fun k => hbad ⟨hd0, k⟩⟩
              · exact .inr hd0
            clear hbad
            have hrel' : ∃ (m s p : Nat), True ∧ Value.int .i64 (mb : Int) = .int .i64 m ∧ Value.int .i64 (s2 : Int) = .int .i64 s ∧ Value.int .i64 (p2 : Int) = .int .i64 p ∧ m ≤ 1000000000 ∧ s ≤ 1000000001 ∧ Hid (∃ k, p = (B + 1) ^ k ∧ m = N / B ^ k) ∧ Hid (T.rd B N = s + p * T.rd B m) :=
              ⟨mb, s2, p2, trivial, rfl, rfl, rfl, by clear hrw hri; omega, by clear hrw hri; omega, HK2, HR2⟩
            have Hrel := Lib.hid hrel'
            clear hrel'
            rcases hcase with ⟨hd0, hp0⟩ | hd0
            · go_upto_region 9 with fail
              rw [HXW.out, HSW.out]
              go_wp2_with fail
              go_roundw
              case measure => exact rem_measure HQW.out hmbm
              case rel => have h9 := Hrel.out; rw [← HPW.out, ← HQW.out] at h9; exact h9
            · go_upto_region 9 with fail
              rw [HXW.out, HSW.out]
              go_wp2_with fail
              go_roundw
              case measure => exact rem_measure HQW.out hmbm
              case rel => have h9 := Hrel.out; rw [← HPW.out, ← HQW.out] at h9; exact h9
      · obtain rfl : m = 0 := by omega
        have hR0 := HR.out
        rw [T.rd_z, Nat.mul_zero, Nat.add_zero] at hR0
        by_cases hg : (s : Int) - 1 ≤ 1000000000
        · have hfin := Lib.hid (HY.out (by rw [hR0]; exact hg))
          have hf2 : (s : Int) - 1 = res := by rw [hfin.out, hR0]
          have Hf := Lib.hid hf2
          clear hR0 hf2
          go_wp2_with fail
          go_ret
          exact ⟨ret_int Hf.out, Below.refl _ _⟩
        · exfalso
          omega
  · rw [T.plainI_out h]
    by_cases h1 : n < 1 ∨ 1000000000 < n
    · have ki := Lib.hid (l1In_no n 1 1000000000 w h1)
      clear h h1
      go_enter Try.func26, Try.ntmps26
      go_wp2_with fail
      refine (ki.out).mono ?_
      rintro ee wx ⟨rfl, rfl⟩
      go_wp2_with fail
      go_ret
      exact ⟨rfl, Below.refl _ _⟩
    · have ki := Lib.hid (l1In_yes n 1 1000000000 w (by omega) (by omega))
      have kr := Lib.hid (l1In_no b 2 89 w (by omega))
      clear h h1
      go_enter Try.func26, Try.ntmps26
      go_wp2_with fail
      refine (ki.out).mono ?_
      rintro ee wx ⟨rfl, rfl⟩
      go_wp2_with fail
      refine (kr.out).mono ?_
      rintro ee wx ⟨rfl, rfl⟩
      go_wp2_with fail
      go_ret
      exact ⟨rfl, Below.refl _ _⟩

end Go.Proofs.Ytaealfmgmonndaa

/- DrawG -/
/- What the laws of chapter 4 draw. -/
namespace Go.Proofs.Ytaealfmgmonndaa
set_option maxRecDepth 100000
open Go.RowKit

def CountPost (w : World) (g P : Nat) (e : Ending) (w' : World) : Prop :=
  ∃ v : Int, e = .returned (.int .i64 v) ∧ 0 ≤ v ∧ v ≤ 1000000000 ∧ RdOk w' g (P + 6) ∧ w.grownBy w' (some g)
def RootPost (w : World) (g P : Nat) (e : Ending) (w' : World) : Prop :=
  ∃ v : Int, e = .returned (.int .i64 v) ∧ -1 ≤ v ∧ v ≤ 99 ∧ RdOk w' g (P + 4) ∧ w.grownBy w' (some g)
theorem mul255 {x y : Int} (h1 : 0 ≤ x) (h2 : x < 256) (h3 : 0 ≤ y) (h4 : y < 256) : 0 ≤ x * y ∧ x * y ≤ 65025 := by
  refine ⟨Int.mul_nonneg h1 h3, ?_⟩
  have := Int.mul_le_mul (show x ≤ 255 by omega) (show y ≤ 255 by omega) h3 (by decide)
  omega
theorem mul255b {x y : Int} (h1 : 0 ≤ x) (h2 : x ≤ 65025) (h3 : 0 ≤ y) (h4 : y < 256) : 0 ≤ x * y ∧ x * y ≤ 16581375 := by
  refine ⟨Int.mul_nonneg h1 h3, ?_⟩
  have := Int.mul_le_mul (show x ≤ 65025 by omega) (show y ≤ 255 by omega) h3 (by decide)
  omega

set_option maxHeartbeats 4000000 in
theorem l20Count_any (g P : Nat) (w : World) (hP : P ≤ 80000000) (hrd : RdOk w g P) :
    Calls Try.prog 51 #[.pointer (some ⟨g, 0, none⟩)] w (CountPost w g P) := by
  have k1 := Lib.hid (pick_any g P 4 w (by omega) (by decide) (by decide) hrd)
  clear hrd
  go_enter Try.func51, Try.ntmps51
  go_wp2_with fail
  refine (k1.out).mono ?_
  rintro ee w1 ⟨x, rfl, hx, hr1, hg1⟩
  have hx0 := hx.1
  have hx1 := hx.2.1 (by decide)
  have hcs : x = 0 ∨ x = 1 ∨ x = 2 ∨ x = 3 := by omega
  have Hg1 := Lib.hid hg1
  have Hr1 := Lib.hid hr1
  clear hx hx0 hx1 hr1 hg1
  rcases hcs with rfl | rfl | rfl | rfl
  · have k2 := Lib.hid (pick_any g (P + 1) 20 w1 (by omega) (by decide) (by decide) Hr1.out)
    go_wp2_with fail
    refine (k2.out).mono ?_
    rintro ee w2 ⟨y, rfl, hy, hr2, hg2⟩
    have hy0 := hy.1
    have hy1 := hy.2.1 (by decide)
    have Hg2 := Lib.hid (grownBy_trans Hg1.out hg2)
    have Hr2 := Lib.hid hr2
    clear hy hr2 hg2
    go_wp2_with fail
    go_ret
    exact ⟨_, rfl, hy0, by omega, Hr2.out.mono (by omega), Hg2.out⟩
  · have k2 := Lib.hid (pick_any g (P + 1) 256 w1 (by omega) (by decide) (by decide) Hr1.out)
    go_wp2_with fail
    refine (k2.out).mono ?_
    rintro ee w2 ⟨y, rfl, hy, hr2, hg2⟩
    have hy0 := hy.1
    have hy1 := hy.2.1 (by decide)
    have Hg2 := Lib.hid (grownBy_trans Hg1.out hg2)
    have k3 := Lib.hid (pick_any g (P + 1 + 1) 256 w2 (by omega) (by decide) (by decide) hr2)
    clear hy hr2 hg2
    go_wp2_with fail
    refine (k3.out).mono ?_
    rintro ee w3 ⟨z, rfl, hz, hr3, hg3⟩
    have hz0 := hz.1
    have hz1 := hz.2.1 (by decide)
    have hm := mul255 hy0 hy1 hz0 hz1
    obtain ⟨m, hmm⟩ : ∃ m, m = y * z := ⟨_, rfl⟩
    rw [← hmm] at hm
    have hm0 := hm.1
    have hm1 := hm.2
    have q2 : IntKind.i64.wrap (y * z) = m := by rw [← hmm]; exact IntWalk.i64_in _ (by omega)
    have Hg3 := Lib.hid (grownBy_trans Hg2.out hg3)
    have Hr3 := Lib.hid hr3
    have HM := Lib.hid hmm
    clear hz hr3 hg3 hm hmm
    go_wp2_with fail
    go_ret
    exact ⟨_, rfl, by first | exact hm0 | (rw [← HM.out]; exact hm0), by first | omega | (rw [← HM.out]; omega), Hr3.out.mono (by omega), Hg3.out⟩
  · have k2 := Lib.hid (pick_any g (P + 1) 256 w1 (by omega) (by decide) (by decide) Hr1.out)
    go_wp2_with fail
    refine (k2.out).mono ?_
    rintro ee w2 ⟨y, rfl, hy, hr2, hg2⟩
    have hy0 := hy.1
    have hy1 := hy.2.1 (by decide)
    have Hg2 := Lib.hid (grownBy_trans Hg1.out hg2)
    have k3 := Lib.hid (pick_any g (P + 1 + 1) 256 w2 (by omega) (by decide) (by decide) hr2)
    clear hy hr2 hg2
    go_wp2_with fail
    refine (k3.out).mono ?_
    rintro ee w3 ⟨z, rfl, hz, hr3, hg3⟩
    have hz0 := hz.1
    have hz1 := hz.2.1 (by decide)
    have hm := mul255 hy0 hy1 hz0 hz1
    obtain ⟨m, hmm⟩ : ∃ m, m = y * z := ⟨_, rfl⟩
    rw [← hmm] at hm
    have hm0 := hm.1
    have hm1 := hm.2
    have q2 : IntKind.i64.wrap (y * z) = m := by rw [← hmm]; exact IntWalk.i64_in _ (by omega)
    have Hg3 := Lib.hid (grownBy_trans Hg2.out hg3)
    have k4 := Lib.hid (pick_any g (P + 1 + 1 + 1) 256 w3 (by omega) (by decide) (by decide) hr3)
    have HM := Lib.hid hmm
    clear hz hr3 hg3 hm hmm
    go_wp2_with fail
    refine (k4.out).mono ?_
    rintro ee w4 ⟨v, rfl, hv, hr4, hg4⟩
    have hv0 := hv.1
    have hv1 := hv.2.1 (by decide)
    have hn := mul255b hm0 hm1 hv0 hv1
    obtain ⟨n, hnn⟩ : ∃ n, n = m * v := ⟨_, rfl⟩
    rw [← hnn] at hn
    have hn0 := hn.1
    have hn1 := hn.2
    have q3 : IntKind.i64.wrap (m * v) = n := by rw [← hnn]; exact IntWalk.i64_in _ (by omega)
    have q3' : m * v = n := hnn.symm
    have Hg4 := Lib.hid (grownBy_trans Hg3.out hg4)
    have k5 := Lib.hid (pick_any g (P + 1 + 1 + 1 + 1) 256 w4 (by omega) (by decide) (by decide) hr4)
    clear hv hr4 hg4 hn hnn
    go_wp2_with fail
    refine (k5.out).mono ?_
    rintro ee w5 ⟨u, rfl, hu, hr5, hg5⟩
    have hu0 := hu.1
    have hu1 := hu.2.1 (by decide)
    have Hg5 := Lib.hid (grownBy_trans Hg4.out hg5)
    have Hr5 := Lib.hid hr5
    clear hu hr5 hg5
    go_wp2_with fail
    go_ret
    exact ⟨_, rfl, by omega, by omega, Hr5.out.mono (by omega), Hg5.out⟩
  · have k2 := Lib.hid (pick_any g (P + 1) 256 w1 (by omega) (by decide) (by decide) Hr1.out)
    go_wp2_with fail
    refine (k2.out).mono ?_
    rintro ee w2 ⟨y, rfl, hy, hr2, hg2⟩
    have hy0 := hy.1
    have hy1 := hy.2.1 (by decide)
    have Hg2 := Lib.hid (grownBy_trans Hg1.out hg2)
    have Hr2 := Lib.hid hr2
    clear hy hr2 hg2
    go_wp2_with fail
    go_ret
    exact ⟨_, rfl, hy0, by omega, Hr2.out.mono (by omega), Hg2.out⟩

set_option maxHeartbeats 4000000 in
theorem l20Root_any (g P : Nat) (w : World) (hP : P ≤ 80000000) (hrd : RdOk w g P) :
    Calls Try.prog 40 #[.pointer (some ⟨g, 0, none⟩)] w (RootPost w g P) := by
  have k1 := Lib.hid (pick_any g P 9 w (by omega) (by decide) (by decide) hrd)
  clear hrd
  go_enter Try.func40, Try.ntmps40
  go_wp2_with fail
  refine (k1.out).mono ?_
  rintro ee w1 ⟨x, rfl, hx, hr1, hg1⟩
  have hx0 := hx.1
  have hx1 := hx.2.1 (by decide)
  have Hg1 := Lib.hid hg1
  have k2 := Lib.hid (pick_any g (P + 1) 12 w1 (by omega) (by decide) (by decide) hr1)
  clear hx hr1 hg1
  go_wp2_with fail
  refine (k2.out).mono ?_
  rintro ee w2 ⟨y, rfl, hy, hr2, hg2⟩
  have hy0 := hy.1
  have hy1 := hy.2.1 (by decide)
  obtain ⟨d, hd⟩ : ∃ d, d = y / 11 := ⟨_, rfl⟩
  have q2 : y.tdiv 11 = d := by rw [hd]; exact Int.tdiv_eq_ediv_of_nonneg hy0
  have hds : d = 0 ∨ d = 1 := by omega
  have Hg2 := Lib.hid (grownBy_trans Hg1.out hg2)
  have k3 := Lib.hid (pick_any g (P + 1 + 1) 90 w2 (by omega) (by decide) (by decide) hr2)
  clear hy hr2 hg2 hd
  rcases hds with rfl | rfl
  · go_wp2_with fail
    refine (k3.out).mono ?_
    rintro ee w3 ⟨z, rfl, hz, hr3, hg3⟩
    have hz0 := hz.1
    have hz1 := hz.2.1 (by decide)
    have Hg3 := Lib.hid (grownBy_trans Hg2.out hg3)
    have k4 := Lib.hid (pick_any g (P + 1 + 1 + 1) 40 w3 (by omega) (by decide) (by decide) hr3)
    clear hz hr3 hg3
    go_wp2_with fail
    refine (k4.out).mono ?_
    rintro ee w4 ⟨v, rfl, hv, hr4, hg4⟩
    have hv0 := hv.1
    have hv1 := hv.2.1 (by decide)
    have Hg4 := Lib.hid (grownBy_trans Hg3.out hg4)
    have Hr4 := Lib.hid hr4
    have hd2 : 0 ≤ v / 39 := by omega
    have hd3 : v / 39 ≤ 1 := by omega
    have q4 : v.tdiv 39 = v / 39 := Int.tdiv_eq_ediv_of_nonneg hv0
    clear hv hr4 hg4
    go_wp2_with fail
    go_ret
    refine ⟨_, rfl, ?_, ?_, Hr4.out.mono (by omega), Hg4.out⟩
    · omega
    · omega
  · go_wp2_with fail
    refine (k3.out).mono ?_
    rintro ee w3 ⟨z, rfl, hz, hr3, hg3⟩
    have hz0 := hz.1
    have hz1 := hz.2.1 (by decide)
    have Hg3 := Lib.hid (grownBy_trans Hg2.out hg3)
    have k4 := Lib.hid (pick_any g (P + 1 + 1 + 1) 40 w3 (by omega) (by decide) (by decide) hr3)
    clear hz hr3 hg3
    go_wp2_with fail
    refine (k4.out).mono ?_
    rintro ee w4 ⟨v, rfl, hv, hr4, hg4⟩
    have hv0 := hv.1
    have hv1 := hv.2.1 (by decide)
    have Hg4 := Lib.hid (grownBy_trans Hg3.out hg4)
    have Hr4 := Lib.hid hr4
    have hd2 : 0 ≤ v / 39 := by omega
    have hd3 : v / 39 ≤ 1 := by omega
    have q4 : v.tdiv 39 = v / 39 := Int.tdiv_eq_ediv_of_nonneg hv0
    clear hv hr4 hg4
    go_wp2_with fail
    go_ret
    refine ⟨_, rfl, ?_, ?_, Hr4.out.mono (by omega), Hg4.out⟩
    · omega
    · omega

set_option maxHeartbeats 2000000 in
theorem drawGoodsteinNext_any (a : Option Addr) (len cap : Nat) (w : World) (h : By w a len cap) : Calls Try.prog 20 #[.slice a len cap] w fun e w' => ∃ x y : Int, e = .returned (.tuple #[.int .i64 x, .int .i64 y]) ∧ 0 ≤ x ∧ x ≤ 1000000000 ∧ -1 ≤ y ∧ y ≤ 99 ∧ Below w.heap.size w w' := by
  have k0 := Lib.hid (open_any a len cap w h)
  obtain ⟨g, hg⟩ : ∃ g, g = w.heap.size := ⟨_, rfl⟩
  rw [← hg] at k0
  have Hg := Lib.hid hg
  clear hg h
  go_enter Try.func20, Try.ntmps20
  go_wp2_with fail
  refine (k0.out).mono ?_
  rintro ee w1 ⟨rfl, hr1, hb1⟩
  have Hb1 := Lib.hid hb1
  clear hb1
  have k1 := Lib.hid (l20Count_any g (0) w1 (by decide) hr1)
  clear hr1
  go_wp2_with fail
  refine (k1.out).mono ?_
  rintro ee w2 ⟨x, rfl, hx0, hx1, hr2, hg2⟩
  have Hg2 := Lib.hid hg2
  clear hg2
  have k2 := Lib.hid (l20Root_any g (0 + 6) w2 (by decide) hr2)
  clear hr2
  go_wp2_with fail
  refine (k2.out).mono ?_
  rintro ee w3 ⟨y, rfl, hy0, hy1, hr3, hg3⟩
  have Hg3 := Lib.hid (grownBy_trans Hg2.out hg3)
  clear hg3
  go_wp2_with fail
  go_ret2
  have hs1 : g ≤ w1.heap.size := by have h1 := Hb1.out.size; have h2 := Hg.out; omega
  exact ⟨x, y, rfl, hx0, hx1, hy0, hy1, by rw [← Hg.out]; exact Hb1.out.grown Hg3.out hs1 (fun k e => by cases e; exact Nat.le_refl _)⟩
set_option maxHeartbeats 2000000 in
theorem drawPlainNext_any (a : Option Addr) (len cap : Nat) (w : World) (h : By w a len cap) : Calls Try.prog 24 #[.slice a len cap] w fun e w' => ∃ x y : Int, e = .returned (.tuple #[.int .i64 x, .int .i64 y]) ∧ 0 ≤ x ∧ x ≤ 1000000000 ∧ -1 ≤ y ∧ y ≤ 99 ∧ Below w.heap.size w w' := by
  have k0 := Lib.hid (open_any a len cap w h)
  obtain ⟨g, hg⟩ : ∃ g, g = w.heap.size := ⟨_, rfl⟩
  rw [← hg] at k0
  have Hg := Lib.hid hg
  clear hg h
  go_enter Try.func24, Try.ntmps24
  go_wp2_with fail
  refine (k0.out).mono ?_
  rintro ee w1 ⟨rfl, hr1, hb1⟩
  have Hb1 := Lib.hid hb1
  clear hb1
  have k1 := Lib.hid (l20Count_any g (0) w1 (by decide) hr1)
  clear hr1
  go_wp2_with fail
  refine (k1.out).mono ?_
  rintro ee w2 ⟨x, rfl, hx0, hx1, hr2, hg2⟩
  have Hg2 := Lib.hid hg2
  clear hg2
  have k2 := Lib.hid (l20Root_any g (0 + 6) w2 (by decide) hr2)
  clear hr2
  go_wp2_with fail
  refine (k2.out).mono ?_
  rintro ee w3 ⟨y, rfl, hy0, hy1, hr3, hg3⟩
  have Hg3 := Lib.hid (grownBy_trans Hg2.out hg3)
  clear hg3
  go_wp2_with fail
  go_ret2
  have hs1 : g ≤ w1.heap.size := by have h1 := Hb1.out.size; have h2 := Hg.out; omega
  exact ⟨x, y, rfl, hx0, hx1, hy0, hy1, by rw [← Hg.out]; exact Hb1.out.grown Hg3.out hs1 (fun k e => by cases e; exact Nat.le_refl _)⟩
set_option maxHeartbeats 2000000 in
theorem drawChangeBase_any (a : Option Addr) (len cap : Nat) (w : World) (h : By w a len cap) : Calls Try.prog 17 #[.slice a len cap] w fun e w' => ∃ x y z : Int, e = .returned (.tuple #[.int .i64 x, .int .i64 y, .int .i64 z]) ∧ 0 ≤ x ∧ x ≤ 1000000000 ∧ -1 ≤ y ∧ y ≤ 99 ∧ -1 ≤ z ∧ z ≤ 99 ∧ Below w.heap.size w w' := by
  have k0 := Lib.hid (open_any a len cap w h)
  obtain ⟨g, hg⟩ : ∃ g, g = w.heap.size := ⟨_, rfl⟩
  rw [← hg] at k0
  have Hg := Lib.hid hg
  clear hg h
  go_enter Try.func17, Try.ntmps17
  go_wp2_with fail
  refine (k0.out).mono ?_
  rintro ee w1 ⟨rfl, hr1, hb1⟩
  have Hb1 := Lib.hid hb1
  clear hb1
  have k1 := Lib.hid (l20Count_any g (0) w1 (by decide) hr1)
  clear hr1
  go_wp2_with fail
  refine (k1.out).mono ?_
  rintro ee w2 ⟨x, rfl, hx0, hx1, hr2, hg2⟩
  have Hg2 := Lib.hid hg2
  clear hg2
  have k2 := Lib.hid (l20Root_any g (0 + 6) w2 (by decide) hr2)
  clear hr2
  go_wp2_with fail
  refine (k2.out).mono ?_
  rintro ee w3 ⟨y, rfl, hy0, hy1, hr3, hg3⟩
  have Hg3 := Lib.hid (grownBy_trans Hg2.out hg3)
  clear hg3
  have k3 := Lib.hid (l20Root_any g (0 + 6 + 4) w3 (by decide) hr3)
  clear hr3
  go_wp2_with fail
  refine (k3.out).mono ?_
  rintro ee w4 ⟨z, rfl, hz0, hz1, hr4, hg4⟩
  have Hg4 := Lib.hid (grownBy_trans Hg3.out hg4)
  clear hg4
  go_wp2_with fail
  go_ret3
  have hs1 : g ≤ w1.heap.size := by have h1 := Hb1.out.size; have h2 := Hg.out; omega
  exact ⟨x, y, z, rfl, hx0, hx1, hy0, hy1, hz0, hz1, by rw [← Hg.out]; exact Hb1.out.grown Hg4.out hs1 (fun k e => by cases e; exact Nat.le_refl _)⟩



end Go.Proofs.Ytaealfmgmonndaa

/- LFnPlainNext -/
/- FnPlainNext: the walk of the law. -/
namespace Go.Proofs.Ytaealfmgmonndaa
set_option maxRecDepth 100000
open Go.RowKit

set_option maxHeartbeats 4000000 in
theorem fnPlainNext_walk (a : Option Addr) (len cap : Nat) (w : World) (h : By w a len cap) :
    Calls Try.prog 6 #[.slice a len cap] w fun e w' => e = .returned (.bool true) ∧ Below w.heap.size w w' := by
  have hlm : len ≤ 9223372036854775807 := by have := h.1; have := h.2.1; unfold maxLen at this; omega
  by_cases hbig : 1048576 < len
  · clear h
    go_enter Try.func6, Try.ntmps6
    go_wp2_with fail
    go_ret
    exact ⟨rfl, Below.refl _ _⟩
  have k0 := Lib.hid (drawPlainNext_any a len cap w h)
  clear h
  go_enter Try.func6, Try.ntmps6
  go_wp2_with fail
  refine (k0.out).mono ?_
  rintro ee w1 ⟨N, A, rfl, hN0, hN1, hA0, hA1, hb0⟩
  have Ht0 := Lib.hid hb0
  have hws := hb0.size
  clear hb0
  rcases T.plainI_vals N A with hs | ⟨hs0, hs1⟩
  · have hg : T.goodI N A = -1 := by
      rcases T.goodI_vals N A with h | ⟨h, _⟩
      · exact h
      · have := (T.plain_good h).1; omega
    have Hs := Lib.hid hs
    have Hg := Lib.hid hg
    clear hs hg
    have k1 := Lib.hid (impl_PlainNext N A w1 (by omega) (by omega) (by omega) (by omega))
    rw [Hs.out] at k1
    go_wp2_with fail
    refine (k1.out).mono ?_
    rintro ee w101 ⟨rfl, hb1⟩
    have Ht1 := Lib.hid (Ht0.out.trans (hb1.mono (by have h1 := Ht0.out.size; omega)))
    clear hb1
    have k2 := Lib.hid (spec_PlainNext N A w101 (by omega) (by omega) (by omega) (by omega))
    rw [Hs.out] at k2
    go_wp2_with fail
    refine (k2.out).mono ?_
    rintro ee w102 ⟨rfl, hb2⟩
    have Ht2 := Lib.hid (Ht1.out.trans (hb2.mono (by have h1 := Ht1.out.size; omega)))
    clear hb2
    have k3 := Lib.hid (impl_GoodsteinNext N A w102 (by omega) (by omega) (by omega) (by omega))
    rw [Hg.out] at k3
    go_wp2_with fail
    refine (k3.out).mono ?_
    rintro ee w103 ⟨rfl, hb3⟩
    have Ht3 := Lib.hid (Ht2.out.trans (hb3.mono (by have h1 := Ht2.out.size; omega)))
    clear hb3
    have k4 := Lib.hid (alive_any w103)
    go_wp2_with fail
    refine (k4.out).mono ?_
    rintro ee w104 ⟨rfl, hb4⟩
    have Ht4 := Lib.hid (Ht3.out.trans (hb4.mono (by have h1 := Ht3.out.size; omega)))
    clear hb4
    go_wp2_with fail
    go_ret
    exact ⟨rfl, Ht4.out⟩
  · have hf : T.goodI N A = -1 ∨ 0 ≤ T.goodI N A ∧ T.plainI N A ≤ T.goodI N A := by
      rcases T.goodI_vals N A with h | ⟨h, _⟩
      · exact .inl h
      · exact .inr ⟨h, (T.plain_good h).2⟩
    have hfb := T.goodI_vals N A
    have hfall := T.plain_fall hs0
    obtain ⟨mv, hmv⟩ : ∃ x, x = T.plainI N A := ⟨_, rfl⟩
    obtain ⟨fv, hfv⟩ : ∃ x, x = T.goodI N A := ⟨_, rfl⟩
    rw [← hmv] at hs0 hs1 hf hfall
    rw [← hfv] at hf hfb
    have hql := T.plainRow_len mv (A + 1)
    have hrl := T.plainRow_len N A
    obtain ⟨q, hq⟩ : ∃ x, x = T.plainRow mv (A + 1) := ⟨_, rfl⟩
    obtain ⟨r, hr⟩ : ∃ x, x = T.plainRow N A := ⟨_, rfl⟩
    rw [← hq] at hql hfall
    rw [← hr] at hrl hfall
    have Hmv := Lib.hid hmv
    have Hfv := Lib.hid hfv
    have Hq := Lib.hid hq
    have Hr := Lib.hid hr
    have Hfall := Lib.hid hfall
    clear hmv hfv hq hr hfall
    have k5 := Lib.hid (impl_PlainNext N A w1 (by omega) (by omega) (by omega) (by omega))
    rw [← Hmv.out] at k5
    go_wp2_with fail
    refine (k5.out).mono ?_
    rintro ee w105 ⟨rfl, hb5⟩
    have Ht5 := Lib.hid (Ht0.out.trans (hb5.mono (by have h1 := Ht0.out.size; omega)))
    clear hb5
    have k6 := Lib.hid (spec_PlainNext N A w105 (by omega) (by omega) (by omega) (by omega))
    rw [← Hmv.out] at k6
    go_wp2_with fail
    refine (k6.out).mono ?_
    rintro ee w106 ⟨rfl, hb6⟩
    have Ht6 := Lib.hid (Ht5.out.trans (hb6.mono (by have h1 := Ht5.out.size; omega)))
    clear hb6
    have k7 := Lib.hid (impl_GoodsteinNext N A w106 (by omega) (by omega) (by omega) (by omega))
    rw [← Hfv.out] at k7
    go_wp2_with fail
    refine (k7.out).mono ?_
    rintro ee w107 ⟨rfl, hb7⟩
    have Ht7 := Lib.hid (Ht6.out.trans (hb7.mono (by have h1 := Ht6.out.size; omega)))
    clear hb7
    have k8 := Lib.hid (impl_PlainOrd mv (A + 1) w107 (by omega) (by omega) (by omega) (by omega))
    unfold IntPost at k8
    rw [← Hq.out] at k8
    go_wp2_with fail
    refine (k8.out).mono ?_
    rintro ee w108 ⟨aP, cP, rfl, ho, hb8⟩
    have Ht8 := Lib.hid (Ht7.out.trans (hb8.mono (by have h1 := Ht7.out.size; omega)))
    have P_8 := Lib.hid (Sl.of_own ho)
    clear hb8 ho
    have k9 := Lib.hid (impl_PlainOrd N A w108 (by omega) (by omega) (by omega) (by omega))
    unfold IntPost at k9
    rw [← Hr.out] at k9
    go_wp2_with fail
    refine (k9.out).mono ?_
    rintro ee w109 ⟨aQ, cQ, rfl, ho, hb9⟩
    have Ht9 := Lib.hid (Ht8.out.trans (hb9.mono (by have h1 := Ht8.out.size; omega)))
    have P_9 := Lib.hid (P_8.out.below hb9)
    have Q_9 := Lib.hid (Sl.of_own ho)
    clear hb9 ho
    clear hfb
    rcases hf with hf | ⟨hf0, hf1⟩
    · subst hf
      by_cases hq0 : q.length = 0
      · have hzb : (((q.length : Nat) : Int) == 0) = true := by rw [hq0]; rfl
        go_wp2_with fail
        go_ret
        exact ⟨rfl, Ht9.out⟩
      · have hzb : (((q.length : Nat) : Int) == 0) = false := by simpa using hq0
        by_cases hr0 : r.length = 0
        · have hzc : (((r.length : Nat) : Int) == 0) = true := by rw [hr0]; rfl
          go_wp2_with fail
          go_ret
          exact ⟨rfl, Ht9.out⟩
        · have hzc : (((r.length : Nat) : Int) == 0) = false := by simpa using hr0
          have hc := Hfall.out (fun h => hq0 (by rw [h]; rfl)) (fun h => hr0 (by rw [h]; rfl))
          have Hc := Lib.hid hc
          clear hc
          have k10 := Lib.hid (impl_OrdCompare aP aQ q.length cP r.length cQ q r w109 P_9.out Q_9.out)
          rw [Hc.out] at k10
          go_wp2_with fail
          refine (k10.out).mono ?_
          rintro ee w110 ⟨rfl, hb10⟩
          have Ht10 := Lib.hid (Ht9.out.trans (hb10.mono (by have h1 := Ht9.out.size; omega)))
          have P_10 := Lib.hid (P_9.out.below hb10)
          have Q_10 := Lib.hid (Q_9.out.below hb10)
          clear hb10
          go_wp2_with fail
          go_ret
          exact ⟨rfl, Ht10.out⟩
    · have hfn : ¬ fv < 0 := by omega
      by_cases hq0 : q.length = 0
      · have hzb : (((q.length : Nat) : Int) == 0) = true := by rw [hq0]; rfl
        go_wp2_with fail
        go_ret
        exact ⟨rfl, Ht9.out⟩
      · have hzb : (((q.length : Nat) : Int) == 0) = false := by simpa using hq0
        by_cases hr0 : r.length = 0
        · have hzc : (((r.length : Nat) : Int) == 0) = true := by rw [hr0]; rfl
          go_wp2_with fail
          go_ret
          exact ⟨rfl, Ht9.out⟩
        · have hzc : (((r.length : Nat) : Int) == 0) = false := by simpa using hr0
          have hc := Hfall.out (fun h => hq0 (by rw [h]; rfl)) (fun h => hr0 (by rw [h]; rfl))
          have Hc := Lib.hid hc
          clear hc
          have k11 := Lib.hid (impl_OrdCompare aP aQ q.length cP r.length cQ q r w109 P_9.out Q_9.out)
          rw [Hc.out] at k11
          go_wp2_with fail
          refine (k11.out).mono ?_
          rintro ee w111 ⟨rfl, hb11⟩
          have Ht11 := Lib.hid (Ht9.out.trans (hb11.mono (by have h1 := Ht9.out.size; omega)))
          have P_11 := Lib.hid (P_9.out.below hb11)
          have Q_11 := Lib.hid (Q_9.out.below hb11)
          clear hb11
          go_wp2_with fail
          go_ret
          exact ⟨rfl, Ht11.out⟩

end Go.Proofs.Ytaealfmgmonndaa
