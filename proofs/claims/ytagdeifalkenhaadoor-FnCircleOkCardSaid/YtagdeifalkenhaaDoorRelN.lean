/- Relations: steps, walks, ranks, circles: the mathematics. No memory. -/
import Derived.Test.YtagdeifalkenhaaDoorRelM
namespace Go.Proofs.YtagdeifalkenhaaDoor
set_option maxRecDepth 100000
open Go

/-- The row of a point. -/
def rw' (xs : List Int) (k : Nat) : Nat := (xs.getD k 0).toNat
/-- All numbers of a list are in 0..m. -/
def RelOk (xs : List Int) : Prop := (1 ≤ xs.length ∧ xs.length ≤ 12) ∧ ∀ x ∈ xs, 0 ≤ x ∧ x ≤ 2 ^ xs.length - 1
theorem RelOk.row {xs : List Int} (h : RelOk xs) (k : Nat) : rw' xs k < 2 ^ xs.length := by
  have h2 : 0 < 2 ^ xs.length := Nat.pow_pos (by decide)
  rw [rw', List.getD]
  cases hk : xs[k]? with
  | none => simpa using h2
  | some x =>
    have h1 := h.2 x (List.mem_of_getElem? hk)
    have h3 : ((2 ^ xs.length : Nat) : Int) = 2 ^ xs.length := by simp
    simp only [Option.getD_some]
    omega
theorem RelOk.row_int {xs : List Int} (h : RelOk xs) {k : Nat} (hk : k < xs.length) : xs.getD k 0 = (rw' xs k : Int) := by
  have hm : xs.getD k 0 ∈ xs := by simp [List.getD, hk]
  have h1 := h.2 _ hm
  rw [rw']; omega
theorem two_le {n : Nat} (h : n ≤ 12) : 2 ^ n ≤ 4096 := (Nat.pow_le_pow_right (by decide) h : 2 ^ n ≤ 2 ^ 12)
theorem RelOk.row_lt {xs : List Int} (h : RelOk xs) (k : Nat) : rw' xs k < 4096 := Nat.lt_of_lt_of_le (h.row k) (two_le h.1.2)

/-- The points to which one of a list leads. -/
def steps (xs : List Int) (l : List Nat) : Nat := l.foldl (fun a k => a ||| rw' xs k) 0
theorem steps_snoc (xs : List Int) (l : List Nat) (k : Nat) : steps xs (l ++ [k]) = steps xs l ||| rw' xs k := by rw [steps, List.foldl_append]; rfl
theorem steps_bit (xs : List Int) (j : Nat) : ∀ (l : List Nat), (steps xs l).testBit j = l.any fun k => (rw' xs k).testBit j := by
  suffices h : ∀ (l : List Nat) (a : Nat), (l.foldl (fun a k => a ||| rw' xs k) a).testBit j = (a.testBit j || l.any fun k => (rw' xs k).testBit j) by
    intro l; rw [steps, h]; simp
  intro l
  induction l with
  | nil => intro a; simp
  | cons k t ih => intro a; rw [List.foldl_cons, ih, Nat.testBit_or, List.any_cons, Bool.or_assoc]
theorem steps_lt {xs : List Int} (h : RelOk xs) (l : List Nat) : steps xs l < 2 ^ xs.length := by
  suffices hs : ∀ (l : List Nat) (a : Nat), a < 2 ^ xs.length → l.foldl (fun a k => a ||| rw' xs k) a < 2 ^ xs.length from hs l 0 (Nat.pow_pos (by decide))
  intro l
  induction l with
  | nil => intro a ha; exact ha
  | cons k t ih => intro a ha; exact ih _ (Nat.or_lt_two_pow ha (h.row k))
def step (xs : List Int) (s : Nat) : Nat := steps xs (pts s)
theorem step_lt {xs : List Int} (h : RelOk xs) (s : Nat) : step xs s < 2 ^ xs.length := steps_lt h _
theorem step_bit {xs : List Int} {s : Nat} (hs : s < 4096) (j : Nat) : (step xs s).testBit j = true ↔ ∃ k, s.testBit k = true ∧ (rw' xs k).testBit j = true := by
  rw [step, steps_bit, List.any_eq_true]
  exact ⟨fun ⟨k, h1, h2⟩ => ⟨k, (mem_pts hs).1 h1, h2⟩, fun ⟨k, h1, h2⟩ => ⟨k, (mem_pts hs).2 h1, h2⟩⟩

/-- The points of a list that lead to none of a set. -/
def nowhs (xs : List Int) (s : Nat) (l : List Nat) : Nat := l.foldl (fun a k => if rw' xs k &&& s = 0 then a ||| 2 ^ k else a) 0
theorem nowhs_snoc (xs : List Int) (s : Nat) (l : List Nat) (k : Nat) : nowhs xs s (l ++ [k]) = if rw' xs k &&& s = 0 then nowhs xs s l ||| 2 ^ k else nowhs xs s l := by rw [nowhs, List.foldl_append]; rfl
theorem nowhs_bit (xs : List Int) (s : Nat) (j : Nat) (l : List Nat) : (nowhs xs s l).testBit j = true ↔ j ∈ l ∧ rw' xs j &&& s = 0 := by
  suffices h : ∀ (l : List Nat) (a : Nat), (l.foldl (fun a k => if rw' xs k &&& s = 0 then a ||| 2 ^ k else a) a).testBit j = true ↔ (a.testBit j = true ∨ (j ∈ l ∧ rw' xs j &&& s = 0)) by
    rw [nowhs, h]; simp
  intro l
  induction l with
  | nil => intro a; simp
  | cons k t ih =>
    intro a
    rw [List.foldl_cons, ih]
    by_cases hk : rw' xs k &&& s = 0
    · rw [if_pos hk, Nat.testBit_or, Nat.testBit_two_pow]
      by_cases hj : k = j
      · subst hj; simp [hk]
      · have hj' : ¬ j = k := fun h => hj h.symm
        simp [hj, hj']
    · rw [if_neg hk]
      by_cases hj : k = j
      · subst hj; simp [hk]
      · have hj' : ¬ j = k := fun h => hj h.symm
        simp [hj']
theorem nowhs_lt {xs : List Int} {s m : Nat} {l : List Nat} (hl : ∀ k ∈ l, k < m) : nowhs xs s l < 2 ^ m := by
  apply Nat.lt_pow_two_of_testBit
  intro i hi
  cases h : (nowhs xs s l).testBit i with
  | false => rfl
  | true =>
    have := hl i ((nowhs_bit xs s i l).1 h).1
    omega
def nowh (xs : List Int) (s : Nat) : Nat := nowhs xs s (pts s)
theorem nowh_bit {xs : List Int} {s : Nat} (hs : s < 4096) (j : Nat) : (nowh xs s).testBit j = true ↔ s.testBit j = true ∧ rw' xs j &&& s = 0 := by
  rw [nowh, nowhs_bit, mem_pts hs]
theorem and_zero {a b : Nat} : a &&& b = 0 ↔ ∀ j, a.testBit j = true → b.testBit j = true → False := by
  constructor
  · intro h j h1 h2
    have := congrArg (fun x => Nat.testBit x j) h
    simp [h1, h2] at this
  · intro h
    apply Nat.eq_of_testBit_eq
    intro j
    rw [Nat.testBit_and, Nat.zero_testBit]
    cases h1 : a.testBit j <;> cases h2 : b.testBit j <;> simp
    exact h j h1 h2
theorem ne_zero {s : Nat} (h : s ≠ 0) : ∃ j, s.testBit j = true := by
  rcases Classical.em (∃ j, s.testBit j = true) with h1 | h1
  · exact h1
  · exact absurd (Nat.eq_of_testBit_eq (fun j => by rw [Nat.zero_testBit]; cases h2 : s.testBit j with | false => rfl | true => exact absurd ⟨j, h2⟩ h1)) h
/-- All points of a relation. -/
theorem full_bit (n j : Nat) : (2 ^ n - 1).testBit j = decide (j < n) := Nat.testBit_two_pow_sub_one n j

/-- The ranks of all points. -/
def IsRank (xs : List Int) (f : Nat → Int) : Prop := ∀ p, p < xs.length →
  (f p = -1 ∧ ∃ q, (rw' xs p).testBit q = true ∧ f q = -1) ∨
  (0 ≤ f p ∧ (∀ q, (rw' xs p).testBit q = true → 0 ≤ f q ∧ f q < f p) ∧ (f p = 0 ∨ ∃ q, (rw' xs p).testBit q = true ∧ f p = f q + 1))
theorem RelOk.succ_lt {xs : List Int} (h : RelOk xs) {p q : Nat} (hq : (rw' xs p).testBit q = true) : q < xs.length := bit_lt (h.row p) hq
/-- There are no two. -/
theorem rank_le {xs : List Int} (h : RelOk xs) {f g : Nat → Int} (hf : IsRank xs f) (hg : IsRank xs g) : ∀ (m : Nat) (p : Nat), p < xs.length → f p = (m : Int) → g p = (m : Int) := by
  intro m
  induction m using Nat.strongRecOn with
  | _ m ih =>
    intro p hp hm
    rcases hf p hp with ⟨h1, _⟩ | ⟨h1, h2, h3⟩
    · omega
    · have key : ∀ q, (rw' xs p).testBit q = true → g q = f q := fun q hq => by
        obtain ⟨k1, k2⟩ := h2 q hq
        have := ih (f q).toNat (by omega) q (h.succ_lt hq) (by omega)
        omega
      rcases hg p hp with ⟨_, q, hq, hgq⟩ | ⟨g1, g2, g3⟩
      · have := key q hq; have := (h2 q hq).1; omega
      · rcases h3 with h3 | ⟨q, hq, h3⟩
        · rcases g3 with g3 | ⟨q, hq, g3⟩
          · omega
          · have := h2 q hq; omega
        · have k1 := key q hq
          have k2 := g2 q hq
          rcases g3 with g3 | ⟨q', hq', g3⟩
          · omega
          · have k3 := key q' hq'
            have k4 := h2 q' hq'
            omega
theorem rank_unique {xs : List Int} (h : RelOk xs) {f g : Nat → Int} (hf : IsRank xs f) (hg : IsRank xs g) {p : Nat} (hp : p < xs.length) : f p = g p := by
  rcases hf p hp with ⟨h1, _⟩ | ⟨h1, _⟩
  · rcases hg p hp with ⟨g1, _⟩ | ⟨g1, _⟩
    · omega
    · have := rank_le h hg hf (g p).toNat p hp (by omega); omega
  · have := rank_le h hf hg (f p).toNat p hp (by omega); omega

/-- How many points a set has. -/
def card (s : Nat) : Nat := (pts s).length
theorem card_lt {s t : Nat} (h : ∀ j, s.testBit j = true → t.testBit j = true) {k : Nat} (hk : k < 12) (h1 : t.testBit k = true) (h2 : s.testBit k = false) : card s < card t := by
  have key : ∀ l : List Nat, (l.filter fun k => s.testBit k).length ≤ (l.filter fun k => t.testBit k).length ∧ (k ∈ l → (l.filter fun k => s.testBit k).length < (l.filter fun k => t.testBit k).length) := by
    intro l
    induction l with
    | nil => simp
    | cons a l ih =>
      by_cases ha : s.testBit a = true
      · have hb := h a ha
        have hak : k ≠ a := by intro e; rw [e, ha] at h2; cases h2
        simp only [List.filter_cons, ha, hb, if_true, List.length_cons, List.mem_cons]
        exact ⟨by omega, fun h9 => by have := ih.2 (h9.resolve_left hak); omega⟩
      · have ha' : s.testBit a = false := by simpa using ha
        by_cases hb : t.testBit a = true
        · simp only [List.filter_cons, ha', hb, if_true, List.length_cons, List.mem_cons]
          exact ⟨by have := ih.1; simp; omega, fun _ => by have := ih.1; simp; omega⟩
        · have hb' : t.testBit a = false := by simpa using hb
          have hak : k ≠ a := by intro e; rw [e, hb'] at h1; cases h1
          simp only [List.filter_cons, ha', hb', List.mem_cons]
          exact ⟨by simpa using ih.1, fun h9 => by simpa using ih.2 (h9.resolve_left hak)⟩
  exact (key (List.range 12)).2 (List.mem_range.2 hk)
theorem card_full : ∀ n, n < 13 → card (2 ^ n - 1) = n := by decide +kernel
theorem card_le {s n : Nat} (hn : n ≤ 12) (hs : s < 2 ^ n) : card s ≤ n := by
  have hb : ∀ j, s.testBit j = true → (2 ^ n - 1).testBit j = true := fun j hj => by rw [full_bit]; simpa using bit_lt hs hj
  rcases Classical.em (s = 2 ^ n - 1) with h | h
  · rw [h, card_full n (by omega)]; exact Nat.le_refl _
  · obtain ⟨k, hk⟩ : ∃ k, (2 ^ n - 1).testBit k = true ∧ s.testBit k = false := by
      rcases Classical.em (∃ k, (2 ^ n - 1).testBit k = true ∧ s.testBit k = false) with h1 | h1
      · exact h1
      · exact absurd (set_ext (fun k => by
          cases h2 : s.testBit k with
          | true => exact (hb k h2).symm
          | false =>
            cases h3 : (2 ^ n - 1).testBit k with
            | false => rfl
            | true => exact absurd ⟨k, h3, h2⟩ h1)) h
    have h9 : k < n := by have := hk.1; rw [full_bit] at this; simpa using this
    have := card_lt hb (k := k) (by omega) hk.1 hk.2
    rw [card_full n (by omega)] at this
    omega

/-- Numbers laid at places. -/
def setAll (fs : List Int) (l : List Nat) (r : Int) : List Int := l.foldl (fun f k => f.set k r) fs
theorem setAll_snoc (fs : List Int) (l : List Nat) (k : Nat) (r : Int) : setAll fs (l ++ [k]) r = (setAll fs l r).set k r := by rw [setAll, List.foldl_append]; rfl
theorem setAll_len (r : Int) : ∀ (l : List Nat) (fs : List Int), (setAll fs l r).length = fs.length
  | [], _ => rfl
  | k :: t, fs => by
    have := setAll_len r t (fs.set k r)
    rw [List.length_set] at this
    exact this
theorem setAll_get (r : Int) (p : Nat) : ∀ (l : List Nat) (fs : List Int), p < fs.length → (setAll fs l r).getD p 0 = if p ∈ l then r else fs.getD p 0
  | [], _, _ => by simp [setAll]
  | k :: t, fs, h => by
    have h1 := setAll_get r p t (fs.set k r) (by rw [List.length_set]; exact h)
    have e : setAll fs (k :: t) r = setAll (fs.set k r) t r := rfl
    rw [e, h1]
    by_cases hk : p = k
    · subst hk
      by_cases ht : p ∈ t
      · simp [ht]
      · simp [ht, List.getD, h]
    · by_cases ht : p ∈ t
      · simp [ht]
      · have hk' : ¬ k = p := fun e => hk e.symm
        simp [ht, hk, List.getD, hk']

/-- Between two rounds of the search for ranks. -/
def RkI (xs : List Int) (r L : Nat) (fs : List Int) : Prop :=
  L < 2 ^ xs.length ∧ fs.length = xs.length ∧ r + card L ≤ xs.length ∧
  (∀ p, L.testBit p = true → fs.getD p 0 = -1 ∧ (r = 0 ∨ ∃ q, (rw' xs p).testBit q = true ∧ (L.testBit q = true ∨ fs.getD q 0 = (r : Int) - 1))) ∧
  (∀ p, p < xs.length → L.testBit p = false → 0 ≤ fs.getD p 0 ∧ fs.getD p 0 < r ∧ (∀ q, (rw' xs p).testBit q = true → L.testBit q = false ∧ fs.getD q 0 < fs.getD p 0) ∧ (fs.getD p 0 = 0 ∨ ∃ q, (rw' xs p).testBit q = true ∧ fs.getD p 0 = fs.getD q 0 + 1))
theorem RkI.start {xs : List Int} (h : RelOk xs) : RkI xs 0 (2 ^ xs.length - 1) (List.replicate xs.length (-1)) := by
  have hp : 0 < 2 ^ xs.length := Nat.pow_pos (by decide)
  refine ⟨by omega, by simp, by rw [card_full _ (by have := h.1.2; omega)]; omega, fun p hp => ⟨?_, .inl rfl⟩, fun p hp hL => ?_⟩
  · have : p < xs.length := bit_lt (by omega) hp
    simp [List.getD, this]
  · rw [full_bit] at hL; simp at hL; omega
theorem RkI.next {xs : List Int} (h : RelOk xs) {r L : Nat} {fs : List Int} (hi : RkI xs r L fs) (hN : nowh xs L ≠ 0) : RkI xs (r + 1) (dif L (nowh xs L)) (setAll fs (pts (nowh xs L)) r) := by
  obtain ⟨h1, h2, h3, h4, h5⟩ := hi
  have hL : L < 4096 := Nat.lt_of_lt_of_le h1 (two_le h.1.2)
  have hNb := nowh_bit (xs := xs) hL
  have hN12 : nowh xs L < 4096 := Nat.lt_of_lt_of_le (nowhs_lt (m := xs.length) (fun k hk => bit_lt h1 ((mem_pts hL).1 hk))) (two_le h.1.2)
  have hg : ∀ p, p < xs.length → (setAll fs (pts (nowh xs L)) r).getD p 0 = if (nowh xs L).testBit p = true then (r : Int) else fs.getD p 0 := fun p hp => by
    rw [setAll_get _ _ _ _ (by rw [h2]; exact hp)]
    simp only [mem_pts hN12]
  refine ⟨dif_lt h1, by rw [setAll_len]; exact h2, ?_, fun p hp => ?_, fun p hp hLp => ?_⟩
  · obtain ⟨k, hk⟩ := ne_zero hN
    have hk2 := (hNb k).1 hk
    have := card_lt (s := dif L (nowh xs L)) (t := L) (fun j hj => by rw [dif_bit] at hj; simp at hj; exact hj.1) (k := k) (by have := bit_lt (m := 12) hN12 hk; omega) hk2.1 (by rw [dif_bit, hk]; simp)
    omega
  · rw [dif_bit, Bool.and_eq_true, Bool.not_eq_true'] at hp
    have hpl := bit_lt h1 hp.1
    rw [hg p hpl, if_neg (by rw [hp.2]; simp)]
    refine ⟨(h4 p hp.1).1, .inr ?_⟩
    have hne : ¬ rw' xs p &&& L = 0 := fun he => by have := (hNb p).2 ⟨hp.1, he⟩; rw [hp.2] at this; cases this
    obtain ⟨q, hq⟩ := ne_zero hne
    rw [Nat.testBit_and, Bool.and_eq_true] at hq
    refine ⟨q, hq.1, ?_⟩
    cases hNq : (nowh xs L).testBit q with
    | true =>
      right
      rw [hg q (bit_lt h1 hq.2), if_pos hNq]
      omega
    | false => left; rw [dif_bit, hq.2, hNq]; rfl
  · rw [dif_bit] at hLp
    rw [hg p hp]
    by_cases hNp : (nowh xs L).testBit p = true
    · rw [if_pos hNp]
      obtain ⟨hpL, hz⟩ := (hNb p).1 hNp
      have hz' := and_zero.1 hz
      refine ⟨by omega, by omega, fun q hq => ?_, ?_⟩
      · have hqL : L.testBit q = false := by cases h9 : L.testBit q with | false => rfl | true => exact (hz' q hq h9).elim
        have hqn := h.succ_lt hq
        have hNq : (nowh xs L).testBit q = false := by cases h9 : (nowh xs L).testBit q with | false => rfl | true => have := ((hNb q).1 h9).1; rw [hqL] at this; cases this
        rw [dif_bit, hqL, hg q hqn, if_neg (by rw [hNq]; simp)]
        have := h5 q hqn hqL
        exact ⟨rfl, by omega⟩
      · rcases (h4 p hpL).2 with h9 | ⟨q, hq, h9⟩
        · left; omega
        · right
          have hqL : L.testBit q = false := by cases h8 : L.testBit q with | false => rfl | true => exact (hz' q hq h8).elim
          have hqn := h.succ_lt hq
          have hNq : (nowh xs L).testBit q = false := by cases h8 : (nowh xs L).testBit q with | false => rfl | true => have := ((hNb q).1 h8).1; rw [hqL] at this; cases this
          have h9' := h9.resolve_left (by rw [hqL]; simp)
          refine ⟨q, hq, ?_⟩
          rw [hg q hqn, if_neg (by rw [hNq]; simp), h9']
          omega
    · have hNp' : (nowh xs L).testBit p = false := by simpa using hNp
      rw [if_neg hNp]
      have hpL : L.testBit p = false := by simpa [hNp'] using hLp
      obtain ⟨k1, k2, k3, k4⟩ := h5 p hp hpL
      have hq' : ∀ q, (rw' xs p).testBit q = true → (setAll fs (pts (nowh xs L)) r).getD q 0 = fs.getD q 0 := fun q hq => by
        have hqL := (k3 q hq).1
        have hNq : (nowh xs L).testBit q = false := by cases h8 : (nowh xs L).testBit q with | false => rfl | true => have := ((hNb q).1 h8).1; rw [hqL] at this; cases this
        rw [hg q (h.succ_lt hq), if_neg (by rw [hNq]; simp)]
      refine ⟨k1, by omega, fun q hq => ?_, ?_⟩
      · rw [hq' q hq, dif_bit, (k3 q hq).1]
        exact ⟨rfl, (k3 q hq).2⟩
      · rcases k4 with k4 | ⟨q, hq, k4⟩
        · exact .inl k4
        · exact .inr ⟨q, hq, by rw [hq' q hq]; exact k4⟩
theorem RkI.done {xs : List Int} (h : RelOk xs) {r L : Nat} {fs : List Int} (hi : RkI xs r L fs) (hN : nowh xs L = 0) : IsRank xs (fun p => fs.getD p 0) := by
  obtain ⟨h1, h2, h3, h4, h5⟩ := hi
  have hL : L < 4096 := Nat.lt_of_lt_of_le h1 (two_le h.1.2)
  intro p hp
  cases hpL : L.testBit p with
  | true =>
    left
    have hne : ¬ rw' xs p &&& L = 0 := fun he => by
      have := (nowh_bit (xs := xs) hL p).2 ⟨hpL, he⟩
      rw [hN, Nat.zero_testBit] at this; cases this
    obtain ⟨q, hq⟩ := ne_zero hne
    rw [Nat.testBit_and, Bool.and_eq_true] at hq
    exact ⟨(h4 p hpL).1, q, hq.1, (h4 q hq.2).1⟩
  | false =>
    right
    obtain ⟨k1, k2, k3, k4⟩ := h5 p hp hpL
    refine ⟨k1, fun q hq => ?_, k4⟩
    have hq1 := k3 q hq
    exact ⟨(h5 q (h.succ_lt hq) hq1.1).1, hq1.2⟩
theorem RkI.small {xs : List Int} {r L : Nat} {fs : List Int} (hi : RkI xs r L fs) (p : Nat) (hp : p < xs.length) : fs.getD p 0 < xs.length := by
  obtain ⟨h1, h2, h3, h4, h5⟩ := hi
  cases hpL : L.testBit p with
  | true => have := (h4 p hpL).1; omega
  | false => have := h5 p hp hpL; omega
/-- Every relation has ranks. -/
theorem rank_ex {xs : List Int} (h : RelOk xs) : ∃ fs : List Int, fs.length = xs.length ∧ IsRank xs (fun p => fs.getD p 0) ∧ ∀ p, p < xs.length → fs.getD p 0 < xs.length := by
  have key : ∀ (m r L : Nat) (fs : List Int), card L ≤ m → RkI xs r L fs → ∃ fs : List Int, fs.length = xs.length ∧ IsRank xs (fun p => fs.getD p 0) ∧ ∀ p, p < xs.length → fs.getD p 0 < xs.length := by
    intro m
    induction m with
    | zero =>
      intro r L fs hm hi
      have hL : L < 4096 := Nat.lt_of_lt_of_le hi.1 (two_le h.1.2)
      have hp : pts L = [] := List.length_eq_zero_iff.1 (by unfold card at hm; omega)
      exact ⟨fs, hi.2.1, hi.done h (by rw [nowh, hp]; rfl), hi.small⟩
    | succ m ih =>
      intro r L fs hm hi
      by_cases hN : nowh xs L = 0
      · exact ⟨fs, hi.2.1, hi.done h hN, hi.small⟩
      · have hL : L < 4096 := Nat.lt_of_lt_of_le hi.1 (two_le h.1.2)
        obtain ⟨k, hk⟩ := ne_zero hN
        have hk2 := (nowh_bit (xs := xs) hL k).1 hk
        have := card_lt (s := dif L (nowh xs L)) (t := L) (fun j hj => by rw [dif_bit] at hj; simp at hj; exact hj.1) (k := k) (bit_lt (m := 12) hL hk2.1) hk2.1 (by rw [dif_bit, hk]; simp)
        exact ih _ _ _ (by omega) (hi.next h hN)
  exact key _ 0 _ _ (Nat.le_refl _) (RkI.start h)

open Classical in
/-- The ranks of a relation. -/
noncomputable def ranks (xs : List Int) : List Int := if h : RelOk xs then (rank_ex h).choose else []
theorem ranks_no {xs : List Int} (h : ¬ RelOk xs) : ranks xs = [] := by rw [ranks, dif_neg h]
theorem ranks_spec {xs : List Int} (h : RelOk xs) : (ranks xs).length = xs.length ∧ IsRank xs (fun p => (ranks xs).getD p 0) ∧ ∀ p, p < xs.length → (ranks xs).getD p 0 < xs.length := by
  rw [ranks, dif_pos h]; exact (rank_ex h).choose_spec
theorem ranks_eq {xs : List Int} (h : RelOk xs) {fs : List Int} (hl : fs.length = xs.length) (hf : IsRank xs (fun p => fs.getD p 0)) : fs = ranks xs := by
  obtain ⟨h1, h2, _⟩ := ranks_spec h
  apply List.ext_getElem (by rw [hl, h1])
  intro i i1 i2
  have := rank_unique h hf h2 (p := i) (by omega)
  simpa [List.getD, i1, i2] using this
theorem ranks_done {xs : List Int} (h : RelOk xs) {r L : Nat} {fs : List Int} (hi : RkI xs r L fs) (hN : nowh xs L = 0) : fs = ranks xs := ranks_eq h hi.2.1 (hi.done h hN)

/-- What the model's search answers at a point, when the points below j are seen. -/
def Upd (xs o : List Int) (k j : Nat) (v : Int) : Prop :=
  (v = -1 ∧ ∃ q, q < j ∧ (rw' xs k).testBit q = true ∧ o.getD q 0 < 0) ∨
  (0 ≤ v ∧ (∀ q, q < j → (rw' xs k).testBit q = true → 0 ≤ o.getD q 0 ∧ o.getD q 0 < v) ∧ (v = 0 ∨ ∃ q, q < j ∧ (rw' xs k).testBit q = true ∧ v = o.getD q 0 + 1))
theorem Upd.start (xs o : List Int) (k : Nat) : Upd xs o k 0 0 := .inr ⟨by omega, fun q h => by omega, .inl rfl⟩
theorem Upd.skip {xs o : List Int} {k j : Nat} {v : Int} (h : Upd xs o k j v) (hb : (rw' xs k).testBit j = false ∨ v < 0) : Upd xs o k (j + 1) v := by
  rcases h with ⟨h1, q, h2, h3⟩ | ⟨h1, h2, h3⟩
  · exact .inl ⟨h1, q, by omega, h3⟩
  · refine .inr ⟨h1, fun q hq hs => ?_, ?_⟩
    · by_cases hj : q = j
      · subst hj
        rcases hb with hb | hb
        · rw [hb] at hs; cases hs
        · omega
      · exact h2 q (by omega) hs
    · exact h3.imp id (fun ⟨q, h4, h5⟩ => ⟨q, by omega, h5⟩)
theorem Upd.bad {xs o : List Int} {k j : Nat} {v : Int} (_h : Upd xs o k j v) (hb : (rw' xs k).testBit j = true) (ho : o.getD j 0 < 0) : Upd xs o k (j + 1) (-1) :=
  .inl ⟨rfl, j, by omega, hb, ho⟩
theorem Upd.good {xs o : List Int} {k j : Nat} {v : Int} (h : Upd xs o k j v) (hb : (rw' xs k).testBit j = true) (ho : 0 ≤ o.getD j 0) (hv : 0 ≤ v) : Upd xs o k (j + 1) (max v (o.getD j 0 + 1)) := by
  rcases h with ⟨h1, _⟩ | ⟨h1, h2, h3⟩
  · omega
  · refine .inr ⟨by omega, fun q hq hs => ?_, ?_⟩
    · by_cases hj : q = j
      · subst hj; omega
      · have := h2 q (by omega) hs; omega
    · rcases Int.le_total (o.getD j 0 + 1) v with hm | hm
      · rw [Int.max_eq_left hm]
        exact h3.imp id (fun ⟨q, h4, h5⟩ => ⟨q, by omega, h5⟩)
      · rw [Int.max_eq_right hm]
        exact .inr ⟨j, by omega, hb, rfl⟩
/-- Between two steps of the model's search: i rounds are over, and in this one the points below k are seen. -/
def MdI (xs : List Int) (i k : Nat) (o : List Int) : Prop :=
  o.length = xs.length ∧ (∀ p, p < xs.length → o.getD p 0 = -1 ∨ (0 ≤ (ranks xs).getD p 0 ∧ o.getD p 0 = (ranks xs).getD p 0)) ∧
  (∀ p, p < xs.length → 0 ≤ (ranks xs).getD p 0 → ((ranks xs).getD p 0 < i ∨ (p < k ∧ (ranks xs).getD p 0 < i + 1)) → o.getD p 0 = (ranks xs).getD p 0)
theorem MdI.start (xs : List Int) : MdI xs 0 0 (List.replicate xs.length (-1)) := by
  refine ⟨by simp, fun p hp => .inl (by simp [List.getD, hp]), fun p hp h1 h2 => ?_⟩
  omega
theorem MdI.round {xs o : List Int} {i : Nat} (h : MdI xs i xs.length o) : MdI xs (i + 1) 0 o :=
  ⟨h.1, h.2.1, fun p hp h1 h2 => h.2.2 p hp h1 (.inr ⟨hp, by omega⟩)⟩
theorem MdI.set {xs o : List Int} {i k : Nat} {v : Int} (hR : RelOk xs) (h : MdI xs i k o) (hk : k < xs.length) (hu : Upd xs o k xs.length v) : MdI xs i (k + 1) (o.set k v) := by
  obtain ⟨h1, h2, h3⟩ := h
  obtain ⟨_, hf, _⟩ := ranks_spec hR
  have hs : ∀ p, (o.set k v).getD p 0 = if p = k then v else o.getD p 0 := fun p => by
    by_cases hp : p = k
    · subst hp; simp [List.getD, h1, hk]
    · have hp' : ¬ k = p := fun e => hp e.symm
      simp [List.getD, hp, hp']
  -- the value is the rank, or there is none yet
  have hv : 0 ≤ v → v = (ranks xs).getD k 0 := fun hv0 => by
    rcases hu with ⟨u1, _⟩ | ⟨_, u2, u3⟩
    · omega
    · have key : ∀ q, (rw' xs k).testBit q = true → o.getD q 0 = (ranks xs).getD q 0 ∧ 0 ≤ (ranks xs).getD q 0 := fun q hq => by
        have hqn := hR.succ_lt hq
        have k1 := u2 q hqn hq
        rcases h2 q hqn with k2 | k2
        · omega
        · exact ⟨k2.2, k2.1⟩
      rcases hf k hk with ⟨_, q, hq, hq2⟩ | ⟨f1, f2, f3⟩
      · have := key q hq; simp only at hq2; omega
      · simp only at f1 f2 f3
        rcases u3 with u3 | ⟨q, hqn, hq, u3⟩
        · rcases f3 with f3 | ⟨q, hq, f3⟩
          · omega
          · have := u2 q (hR.succ_lt hq) hq
            omega
        · have k1 := key q hq
          have k2 := f2 q hq
          rcases f3 with f3 | ⟨q', hq', f3⟩
          · omega
          · have k3 := key q' hq'
            have k4 := u2 q' (hR.succ_lt hq') hq'
            omega
  refine ⟨by rw [List.length_set]; exact h1, fun p hp => ?_, fun p hp p1 p2 => ?_⟩
  · rw [hs]
    by_cases hpk : p = k
    · subst hpk
      rw [if_pos rfl]
      rcases hu with ⟨u1, _⟩ | ⟨u1, _⟩
      · exact .inl u1
      · have := hv u1
        exact .inr ⟨by omega, this⟩
    · rw [if_neg hpk]; exact h2 p hp
  · rw [hs]
    by_cases hpk : p = k
    · subst hpk
      rw [if_pos rfl]
      rcases hu with ⟨_, q, hqn, hq, hq2⟩ | ⟨u1, _⟩
      · exfalso
        rcases hf p hp with ⟨f1, _⟩ | ⟨f1, f2, _⟩
        · simp only at f1; omega
        · have k1 := f2 q hq
          simp only at k1
          have := h3 q hqn k1.1 (.inl (by omega))
          omega
      · exact hv u1
    · rw [if_neg hpk]
      exact h3 p hp p1 (p2.imp id (fun ⟨a, b⟩ => ⟨by omega, b⟩))
theorem MdI.done {xs o : List Int} (hR : RelOk xs) (h : MdI xs xs.length 0 o) : o = ranks xs := by
  obtain ⟨h1, h2, h3⟩ := h
  obtain ⟨r1, hf, r3⟩ := ranks_spec hR
  apply List.ext_getElem (by rw [h1, r1])
  intro p p1 p2
  have hp : p < xs.length := by omega
  have key : o.getD p 0 = (ranks xs).getD p 0 := by
    rcases hf p hp with ⟨f1, _⟩ | ⟨f1, _⟩
    · rcases h2 p hp with k | k
      · rw [k]; simp only at f1; exact f1.symm
      · exact k.2
    · exact h3 p hp f1 (.inl (r3 p hp))
  simpa [List.getD, p1, p2] using key

end Go.Proofs.YtagdeifalkenhaaDoor
