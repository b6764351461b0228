/- Pairs have ranks as products. No memory. -/
import Derived.Test.YtagdeifalkenhaaDoorRelP
import Derived.Test.YtagdeifalkenhaaDoorRelH
namespace Go.Proofs.YtagdeifalkenhaaDoor
set_option maxRecDepth 100000
open Go

/-- One more than the greatest of the first ones, and 0 at least. -/
def hi (f : Nat → Int) : Nat → Int
  | 0 => 0
  | k + 1 => max (hi f k) (f k + 1)
theorem hi_pos (f : Nat → Int) : ∀ n, 0 ≤ hi f n
  | 0 => Int.le_refl _
  | n + 1 => by have := hi_pos f n; simp only [hi]; omega
theorem hi_ge (f : Nat → Int) : ∀ n k, k < n → f k + 1 ≤ hi f n
  | 0, k, h => by omega
  | n + 1, k, h => by
    simp only [hi]
    by_cases hk : k = n
    · subst hk; omega
    · have := hi_ge f n k (by omega); omega
theorem hi_at (f : Nat → Int) (h0 : ∀ k, 0 ≤ f k ∨ True) : ∀ n, (∃ k, k < n ∧ f k + 1 = hi f n) ∨ hi f n = 0
  | 0 => .inr rfl
  | n + 1 => by
    simp only [hi]
    by_cases h : hi f n ≤ f n + 1
    · exact .inl ⟨n, by omega, by omega⟩
    · rcases hi_at f h0 n with ⟨k, h1, h2⟩ | h1
      · exact .inl ⟨k, by omega, by omega⟩
      · exact .inr (by omega)
theorem hi_max {f : Nat → Int} {n : Nat} (hn : 1 ≤ n) (h0 : ∀ k, k < n → 0 ≤ f k) : ∃ k, k < n ∧ f k + 1 = hi f n := by
  rcases hi_at f (fun _ => .inr trivial) n with h | h
  · exact h
  · have h1 := hi_ge f n 0 (by omega)
    have h2 := h0 0 (by omega)
    omega

theorem hi_le (f : Nat → Int) (B : Int) : ∀ n, (∀ k, k < n → f k ≤ B) → 0 ≤ B → hi f n ≤ B + 1
  | 0, _, h => by simp only [hi]; omega
  | n + 1, h, h0 => by
    have h1 := hi_le f B n (fun k hk => h k (by omega)) h0
    have h2 := h n (by omega)
    simp only [hi]
    omega
theorem pair_div {m i k : Nat} (hk : k < m) : (i * m + k) / m = i := by
  rw [Nat.mul_comm, Nat.mul_add_div (by omega), Nat.div_eq_of_lt hk]; rfl
theorem pair_mod {m i k : Nat} (hk : k < m) : (i * m + k) % m = k := by
  rw [Nat.mul_comm, Nat.mul_add_mod, Nat.mod_eq_of_lt hk]
theorem pair_lt {n m i k : Nat} (hi : i < n) (hk : k < m) : i * m + k < n * m := by
  have h1 : (i + 1) * m ≤ n * m := Nat.mul_le_mul_right m (by omega)
  rw [Nat.add_mul, Nat.one_mul] at h1
  omega
theorem pair_parts {n m c : Nat} (hm : 1 ≤ m) (hc : c < n * m) : c / m < n ∧ c % m < m :=
  ⟨by rw [Nat.div_lt_iff_lt_mul hm]; exact hc, Nat.mod_lt _ hm⟩

section
variable {a b : List Int} (ha : RelOk a) (hb : RelOk b) (hab : a.length * b.length ≤ 12)
include ha hb hab

theorem prs_val : prs a b = prp a b (a.length * b.length) := by rw [prs, if_pos ⟨relB_true.2 ha, relB_true.2 hb, hab⟩]
theorem prs_count : (prs a b).length = a.length * b.length := by rw [prs_val ha hb hab, prp_len]
theorem prs_rw {c : Nat} (hc : c < a.length * b.length) : rw' (prs a b) c = pr a b b.length (c / b.length) (c % b.length) := by
  rw [prs_val ha hb hab, rw', prp, List.getD_eq_getElem?_getD, List.getElem?_map, List.getElem?_range hc]
  simp
theorem prs_relOk : RelOk (prs a b) := by
  have hl := prs_count ha hb hab
  have h1 : 1 * 1 ≤ a.length * b.length := Nat.mul_le_mul ha.1.1 hb.1.1
  refine ⟨⟨by omega, by omega⟩, fun x hx => ?_⟩
  rw [hl]
  rw [prs_val ha hb hab, prp, List.mem_map] at hx
  obtain ⟨c, hc, rfl⟩ := hx
  rw [List.mem_range] at hc
  have h2 := pr_lt ha hb (c % b.length) (pair_parts hb.1.1 hc).1
  have h3 : ((2 ^ (a.length * b.length) : Nat) : Int) = 2 ^ (a.length * b.length) := by simp
  omega
theorem prs_bit {c : Nat} (hc : c < a.length * b.length) (q : Nat) :
    (rw' (prs a b) c).testBit q = true ↔ (rw' a (c / b.length)).testBit (q / b.length) = true ∨ (c / b.length = q / b.length ∧ (rw' b (c % b.length)).testBit (q % b.length) = true) := by
  rw [prs_rw ha hb hab hc, pr_bit ha hb _ (pair_parts hb.1.1 hc).1]
  simp

theorem prs_rank {x y : Nat → Int} (hx : IsRank a x) (hy : IsRank b y) (hx0 : ∀ i, i < a.length → 0 ≤ x i) (hy0 : ∀ k, k < b.length → 0 ≤ y k) :
    IsRank (prs a b) (fun c => x (c / b.length) * hi y b.length + y (c % b.length)) := by
  intro c hc
  rw [prs_count ha hb hab] at hc
  obtain ⟨p1, p2⟩ := pair_parts hb.1.1 hc
  have hH := hi_pos y b.length
  have hxi := hx0 _ p1
  have hyk := hy0 _ p2
  have hmul := Int.mul_nonneg hxi hH
  right
  dsimp only
  refine ⟨by omega, fun q hq => ?_, ?_⟩
  · have hql : q < a.length * b.length := by
      have := (prs_relOk ha hb hab).succ_lt hq
      rwa [prs_count ha hb hab] at this
    obtain ⟨q1, q2⟩ := pair_parts hb.1.1 hql
    have hm2 := Int.mul_nonneg (hx0 _ q1) hH
    have hq0 := hy0 _ q2
    refine ⟨by omega, ?_⟩
    rcases (prs_bit ha hb hab hc q).1 hq with h | ⟨h, h'⟩
    · rcases hx _ p1 with ⟨h1, _⟩ | ⟨_, h2, _⟩
      · omega
      · have h3 := (h2 _ h).2
        have h4 := hi_ge y b.length _ q2
        have h5 : x (q / b.length) * hi y b.length ≤ (x (c / b.length) - 1) * hi y b.length := Int.mul_le_mul_of_nonneg_right (by omega) hH
        rw [Int.sub_mul, Int.one_mul] at h5
        omega
    · rcases hy _ p2 with ⟨h1, _⟩ | ⟨_, h2, _⟩
      · omega
      · have h3 := (h2 _ h').2
        rw [h]
        omega
  · rcases hy _ p2 with ⟨h1, _⟩ | ⟨_, _, h3⟩
    · omega
    · rcases h3 with h3 | ⟨k', hk, h3⟩
      · rcases hx _ p1 with ⟨h1, _⟩ | ⟨_, _, h4⟩
        · omega
        · rcases h4 with h4 | ⟨i', hi', h4⟩
          · left
            rw [h3, h4]
            simp
          · right
            obtain ⟨k, hk1, hk2⟩ := hi_max hb.1.1 hy0
            refine ⟨i' * b.length + k, (prs_bit ha hb hab hc _).2 (.inl (by rw [pair_div hk1]; exact hi')), ?_⟩
            rw [pair_div hk1, pair_mod hk1, h3, h4, Int.add_mul, Int.one_mul]
            omega
      · right
        have hk1 := hb.succ_lt hk
        refine ⟨c / b.length * b.length + k', (prs_bit ha hb hab hc _).2 (.inr ⟨(pair_div hk1).symm, by rw [pair_mod hk1]; exact hk⟩), ?_⟩
        rw [pair_div hk1, pair_mod hk1, h3]
        omega

theorem prs_down {f : Nat → Int} (hf : IsRank (prs a b) f) (h0 : ∀ c, c < a.length * b.length → 0 ≤ f c) :
    (∀ (x : Nat → Int), IsRank a x → ∀ i, i < a.length → 0 ≤ x i) ∧ (∀ (y : Nat → Int), IsRank b y → ∀ k, k < b.length → 0 ≤ y k) := by
  have less : ∀ c q, c < a.length * b.length → (rw' (prs a b) c).testBit q = true → f q < f c := fun c q hc hq => by
    rcases hf c (by rw [prs_count ha hb hab]; exact hc) with ⟨h1, _⟩ | ⟨_, h2, _⟩
    · have := h0 c hc; omega
    · exact (h2 q hq).2
  have hb1 := hb.1.1
  constructor
  · intro x hx i hi
    refine Classical.byContradiction (fun hn => ?_)
    have key : ∀ (N i : Nat), i < a.length → ¬ 0 ≤ x i → f (i * b.length + 0) ≤ (N : Int) → False := by
      intro N
      induction N with
      | zero =>
        intro i hi hn hN
        rcases hx i hi with ⟨_, i', h1, h2⟩ | ⟨h1, _⟩
        · have hc := pair_lt (k := 0) hi hb1
          have hi' := ha.succ_lt h1
          have h3 := less (i * b.length + 0) (i' * b.length + 0) hc ((prs_bit ha hb hab hc _).2 (.inl (by rw [pair_div hb1, pair_div hb1]; exact h1)))
          have h4 := h0 _ (pair_lt (k := 0) hi' hb1)
          omega
        · exact hn h1
      | succ N ih =>
        intro i hi hn hN
        rcases hx i hi with ⟨_, i', h1, h2⟩ | ⟨h1, _⟩
        · have hc := pair_lt (k := 0) hi hb1
          have hi' := ha.succ_lt h1
          have h3 := less (i * b.length + 0) (i' * b.length + 0) hc ((prs_bit ha hb hab hc _).2 (.inl (by rw [pair_div hb1, pair_div hb1]; exact h1)))
          exact ih i' hi' (by omega) (by omega)
        · exact hn h1
    exact key (f (i * b.length + 0)).toNat i hi hn (by have := h0 _ (pair_lt (k := 0) hi hb1); omega)
  · intro y hy k hk
    refine Classical.byContradiction (fun hn => ?_)
    have ha1 := ha.1.1
    have key : ∀ (N k : Nat), k < b.length → ¬ 0 ≤ y k → f (0 * b.length + k) ≤ (N : Int) → False := by
      intro N
      induction N with
      | zero =>
        intro k hk hn hN
        rcases hy k hk with ⟨_, k', h1, h2⟩ | ⟨h1, _⟩
        · have hc := pair_lt (i := 0) ha1 hk
          have hk' := hb.succ_lt h1
          have h3 := less (0 * b.length + k) (0 * b.length + k') hc ((prs_bit ha hb hab hc _).2 (.inr ⟨by rw [pair_div hk, pair_div hk'], by rw [pair_mod hk, pair_mod hk']; exact h1⟩))
          have h4 := h0 _ (pair_lt (i := 0) ha1 hk')
          omega
        · exact hn h1
      | succ N ih =>
        intro k hk hn hN
        rcases hy k hk with ⟨_, k', h1, h2⟩ | ⟨h1, _⟩
        · have hc := pair_lt (i := 0) ha1 hk
          have hk' := hb.succ_lt h1
          have h3 := less (0 * b.length + k) (0 * b.length + k') hc ((prs_bit ha hb hab hc _).2 (.inr ⟨by rw [pair_div hk, pair_div hk'], by rw [pair_mod hk, pair_mod hk']; exact h1⟩))
          exact ih k' hk' (by omega) (by omega)
        · exact hn h1
    exact key (f (0 * b.length + k)).toNat k hk hn (by have := h0 _ (pair_lt (i := 0) ha1 hk); omega)
end

/-- What the law says: whether it is one; and then whether no walk goes on for ever; and then the ranks. -/
theorem prs_cases (a b : List Int) : prs a b = [] ∨ (RelOk a ∧ RelOk b ∧ (prs a b).length = a.length * b.length ∧ a.length * b.length ≤ 12 ∧ wfB (prs a b) = (wfB a && wfB b) ∧
    (wfB a = true → wfB b = true → (ranks a).length = a.length ∧ (ranks b).length = b.length ∧ (ranks (prs a b)).length = a.length * b.length ∧ (∀ p, p < a.length → 0 ≤ (ranks a).getD p 0 ∧ (ranks a).getD p 0 ≤ 12) ∧ (∀ p, p < b.length → 0 ≤ (ranks b).getD p 0 ∧ (ranks b).getD p 0 ≤ 12) ∧
      ∀ c, c < a.length * b.length → (ranks (prs a b)).getD c 0 = (ranks a).getD (c / b.length) 0 * hi (fun k => (ranks b).getD k 0) b.length + (ranks b).getD (c % b.length) 0)) := by
  by_cases hc : relB a = true ∧ relB b = true ∧ a.length * b.length ≤ 12
  · right
    have ha := relB_true.1 hc.1
    have hb := relB_true.1 hc.2.1
    have hab := hc.2.2
    have hp := prs_relOk ha hb hab
    have hl := prs_count ha hb hab
    obtain ⟨a1, a2, a3⟩ := ranks_spec ha
    obtain ⟨b1, b2, b3⟩ := ranks_spec hb
    obtain ⟨p1, p2, p3⟩ := ranks_spec hp
    have hrk : wfB a = true → wfB b = true → ∀ c, c < a.length * b.length → (ranks (prs a b)).getD c 0 = (ranks a).getD (c / b.length) 0 * hi (fun k => (ranks b).getD k 0) b.length + (ranks b).getD (c % b.length) 0 := fun h1 h2 c hcl =>
      rank_unique hp p2 (prs_rank ha hb hab a2 b2 (wfB_true.1 h1).2 (wfB_true.1 h2).2) (by rw [hl]; exact hcl)
    refine ⟨ha, hb, hl, hab, ?_, fun h1 h2 => ⟨a1, b1, by rw [p1, hl], fun p hpl => ⟨(wfB_true.1 h1).2 p hpl, by have := a3 p hpl; have := ha.1.2; omega⟩, fun p hpl => ⟨(wfB_true.1 h2).2 p hpl, by have := b3 p hpl; have := hb.1.2; omega⟩, hrk h1 h2⟩⟩
    rw [Bool.eq_iff_iff, Bool.and_eq_true, wfB_true]
    constructor
    · rintro ⟨_, h1⟩
      rw [hl] at h1
      have hd := prs_down ha hb hab p2 h1
      exact ⟨wfB_true.2 ⟨ha, hd.1 _ a2⟩, wfB_true.2 ⟨hb, hd.2 _ b2⟩⟩
    · rintro ⟨h1, h2⟩
      refine ⟨hp, fun c hcl => ?_⟩
      rw [hl] at hcl
      rw [hrk h1 h2 c hcl]
      obtain ⟨q1, q2⟩ := pair_parts hb.1.1 hcl
      have := Int.mul_nonneg ((wfB_true.1 h1).2 _ q1) (hi_pos (fun k => (ranks b).getD k 0) b.length)
      have := (wfB_true.1 h2).2 _ q2
      omega
  · left; rw [prs, if_neg hc]

end Go.Proofs.YtagdeifalkenhaaDoor
