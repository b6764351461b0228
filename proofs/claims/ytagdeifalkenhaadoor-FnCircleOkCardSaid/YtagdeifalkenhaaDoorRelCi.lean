/- Relations: the walk that finds a circle: the mathematics. No memory. -/
import Derived.Test.YtagdeifalkenhaaDoorRelR
namespace Go.Proofs.YtagdeifalkenhaaDoor
set_option maxRecDepth 100000
open Go

/-- A point without a rank. -/
def Edl (xs : List Int) (p : Nat) : Prop := p < xs.length ∧ (ranks xs).getD p 0 < 0
def Lst (P : Nat → Prop) (k : Nat) : Prop := P k ∧ ∀ j, j < k → ¬ P j
theorem Lst.unique {P : Nat → Prop} {a b : Nat} (h : Lst P a) (k : Lst P b) : a = b := by
  rcases Nat.lt_trichotomy a b with h1 | h1 | h1
  · exact absurd h.1 (k.2 a h1)
  · exact h1
  · exact absurd k.1 (h.2 b h1)
theorem lst_ex {P : Nat → Prop} : ∀ n, P n → ∃ k, k ≤ n ∧ Lst P k := by
  intro n
  induction n using Nat.strongRecOn with
  | _ n ih =>
    intro hn
    rcases Classical.em (∃ j, j < n ∧ P j) with ⟨j, h1, h2⟩ | h1
    · obtain ⟨k, h3, h4⟩ := ih j h1 h2
      exact ⟨k, by omega, h4⟩
    · exact ⟨n, Nat.le_refl _, hn, fun j hj hp => h1 ⟨j, hj, hp⟩⟩
theorem edl_ok {xs : List Int} {p : Nat} (h : Edl xs p) : RelOk xs := by
  refine Classical.byContradiction (fun h1 => ?_)
  have h2 := h.2
  rw [ranks_no h1] at h2
  simp at h2
/-- It leads to one. -/
theorem edl_next {xs : List Int} {p : Nat} (h : Edl xs p) : ∃ q, (rw' xs p).testBit q = true ∧ Edl xs q := by
  have hR := edl_ok h
  rcases (ranks_spec hR).2.1 p h.1 with ⟨_, q, hq, hf⟩ | ⟨h1, _⟩
  · have hf' : (ranks xs).getD q 0 = -1 := hf
    exact ⟨q, hq, hR.succ_lt hq, by omega⟩
  · have h1' : 0 ≤ (ranks xs).getD p 0 := h1
    have := h.2
    omega

/-- The walk so far, and the point where it is. -/
inductive Wlk (xs : List Int) : List Nat → Nat → Prop
  | start {a : Nat} : Lst (Edl xs) a → Wlk xs [] a
  | next {ls : List Nat} {a b : Nat} : Wlk xs ls a → a ∉ ls → Lst (fun j => (rw' xs a).testBit j = true ∧ Edl xs j) b → Wlk xs (ls ++ [a]) b
theorem Wlk.edl {xs : List Int} {ls : List Nat} {a : Nat} (h : Wlk xs ls a) : Edl xs a := by
  cases h with
  | start h => exact h.1
  | next _ _ h => exact h.1.2
theorem Wlk.all {xs : List Int} {ls : List Nat} {a : Nat} (h : Wlk xs ls a) : ∀ p ∈ ls, Edl xs p := by
  induction h with
  | start _ => intro p hp; cases hp
  | next h1 _ _ ih =>
    intro p hp
    rcases List.mem_append.1 hp with h9 | h9
    · exact ih p h9
    · rw [List.mem_singleton.1 h9]; exact h1.edl
theorem Wlk.nodup {xs : List Int} {ls : List Nat} {a : Nat} (h : Wlk xs ls a) : ls.Nodup := by
  induction h with
  | start _ => exact List.nodup_nil
  | next _ h2 _ ih =>
    rw [List.nodup_append]
    refine ⟨ih, by simp, fun x hx y hy he => ?_⟩
    rw [List.mem_singleton.1 hy] at he
    exact h2 (he ▸ hx)
theorem Wlk.go {xs : List Int} {ls : List Nat} {a : Nat} (h : Wlk xs ls a) (ha : a ∉ ls) : ∃ b, Lst (fun j => (rw' xs a).testBit j = true ∧ Edl xs j) b ∧ Wlk xs (ls ++ [a]) b := by
  obtain ⟨q, hq⟩ := edl_next h.edl
  obtain ⟨b, _, hb⟩ := lst_ex (P := fun j => (rw' xs a).testBit j = true ∧ Edl xs j) q hq
  exact ⟨b, hb, .next h ha hb⟩
/-- There is one walk of each length. -/
theorem Wlk.same {xs : List Int} {ls : List Nat} {a : Nat} (h : Wlk xs ls a) : ∀ {ms : List Nat} {b : Nat}, Wlk xs ms b → ms.length = ls.length → ms = ls ∧ b = a := by
  induction h with
  | start h =>
    intro ms b k hl
    cases k with
    | start k => exact ⟨rfl, k.unique h⟩
    | next _ _ _ => simp at hl
  | next h1 h2 h3 ih =>
    intro ms b k hl
    cases k with
    | start k => simp at hl
    | next k1 k2 k3 =>
      obtain ⟨e1, e2⟩ := ih k1 (by simpa using hl)
      subst e1 e2
      exact ⟨rfl, k3.unique h3⟩
/-- A longer walk has not come back at a shorter length. -/
theorem Wlk.part {xs : List Int} {ls : List Nat} {a : Nat} (h : Wlk xs ls a) : ∀ m, m < ls.length → ∃ ms b, Wlk xs ms b ∧ ms.length = m ∧ b ∉ ms := by
  induction h with
  | start _ => intro m hm; simp at hm
  | @next l c d h1 h2 _ ih =>
    intro m hm
    by_cases hl : m < l.length
    · exact ih m hl
    · exact ⟨l, c, h1, by simp at hm; omega, h2⟩
theorem Wlk.one {xs : List Int} {ls ms : List Nat} {a b : Nat} (h : Wlk xs ls a) (k : Wlk xs ms b) (ha : a ∈ ls) (hb : b ∈ ms) : ms = ls ∧ b = a := by
  rcases Nat.lt_trichotomy ms.length ls.length with h1 | h1 | h1
  · obtain ⟨us, c, h2, h3, h4⟩ := h.part _ h1
    obtain ⟨e1, e2⟩ := k.same h2 h3
    subst e1 e2
    exact absurd hb h4
  · exact h.same k h1
  · obtain ⟨us, c, h2, h3, h4⟩ := k.part _ h1
    obtain ⟨e1, e2⟩ := h.same h2 h3
    subst e1 e2
    exact absurd ha h4
/-- What both sides answer: the walk from where it comes again. -/
def CirV (xs : List Int) (r : List Nat) (o : Bool) : Prop :=
  (o = false ∧ r = [] ∧ ¬ ∃ p, Edl xs p) ∨ (o = true ∧ ∃ ls a t, Wlk xs ls a ∧ t < ls.length ∧ ls[t]? = some a ∧ r = ls.drop t)
theorem CirV.unique {xs : List Int} {r s : List Nat} {o q : Bool} (h : CirV xs r o) (k : CirV xs s q) : r = s ∧ o = q := by
  have key : ∀ {ls : List Nat} {a : Nat}, Wlk xs ls a → ∃ p, Edl xs p := fun h => ⟨_, h.edl⟩
  rcases h with ⟨h1, h2, h3⟩ | ⟨h1, ls, a, t, h2, h3, h4, h5⟩ <;> rcases k with ⟨k1, k2, k3⟩ | ⟨k1, ms, b, u, k2, k3, k4, k5⟩
  · exact ⟨by rw [h2, k2], by rw [h1, k1]⟩
  · exact absurd (key k2) h3
  · exact absurd (key h2) k3
  · obtain ⟨e1, e2⟩ := h2.one k2 (List.mem_of_getElem? h4) (List.mem_of_getElem? k4)
    subst e1 e2
    have htu : t = u := by
      have hn := h2.nodup
      refine (List.getElem_inj (h₀ := h3) (h₁ := k3) hn).1 ?_
      rw [List.getElem?_eq_getElem h3] at h4
      rw [List.getElem?_eq_getElem k3] at k4
      exact (Option.some.inj h4).trans (Option.some.inj k4).symm
    subst htu
    exact ⟨by rw [h5, k5], by rw [h1, k1]⟩

end Go.Proofs.YtagdeifalkenhaaDoor
