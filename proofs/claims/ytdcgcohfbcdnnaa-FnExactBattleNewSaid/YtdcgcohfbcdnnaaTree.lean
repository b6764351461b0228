/- Trees of nodes in memory: each node with all that grows on it lies in blocks of its own, from its own block on. -/
import Derived.Test.YtdcgcohfbcdnnaaHyd
import Derived.Test.YtdcgcohfbcdnnaaHydT
import Derived.Test.YtdcgcohfbcdnnaaMark
import Derived.Maps.AppendAt
namespace Go.Proofs.Ytdcgcohfbcdnnaa
set_option maxRecDepth 100000
open Go.RowKit

/-- The branches f, whose pointers are vs and lie in block a: their nodes lie in the blocks from lo to hi, one behind the other. -/
def Kids (w : World) : H → Option Nat → List Value → Nat → Nat → Prop
  | .z, _, vs, _, _ => vs = []
  | .c k r, a, vs, lo, hi => ∃ (p m : Nat) (ao : Option Addr) (c : Nat) (us vs' : List Value), vs = .pointer (some ⟨p, 0, none⟩) :: vs' ∧ lo ≤ p ∧ p < m ∧ m ≤ hi ∧ (∀ b, a = some b → b < p ∨ m ≤ b) ∧
      w.heap[p]? = some (.cells #[.slice ao k.cnt c] 83 (0, 0)) ∧ w.ownsRow (p + 1) 68 1 (.slice ao k.cnt c) k.cnt us ∧ (∀ b, (Value.slice ao k.cnt c).ownBlock = some b → b < m) ∧
      Kids w k (Value.slice ao k.cnt c).ownBlock us (p + 1) m ∧ Kids w r a vs' m hi

/-- A node: its block is p, and all that grows on it lies before m. -/
def Nd (w : World) (f : H) (p m : Nat) : Prop :=
  ∃ (ao : Option Addr) (c : Nat) (us : List Value), p < m ∧ w.heap[p]? = some (.cells #[.slice ao f.cnt c] 83 (0, 0)) ∧ w.ownsRow (p + 1) 68 1 (.slice ao f.cnt c) f.cnt us ∧
    (∀ b, (Value.slice ao f.cnt c).ownBlock = some b → b < m) ∧ Kids w f (Value.slice ao f.cnt c).ownBlock us (p + 1) m

theorem Kids.cons {w : World} {k r : H} {a : Option Nat} {vs : List Value} {lo hi : Nat} : Kids w (.c k r) a vs lo hi ↔
    ∃ (p m : Nat) (vs' : List Value), vs = .pointer (some ⟨p, 0, none⟩) :: vs' ∧ lo ≤ p ∧ m ≤ hi ∧ (∀ b, a = some b → b < p ∨ m ≤ b) ∧ Nd w k p m ∧ Kids w r a vs' m hi := by
  constructor
  · rintro ⟨p, m, ao, c, us, vs', h1, h2, h3, h4, h5, h6, h7, h8, h9, h10⟩
    exact ⟨p, m, vs', h1, h2, h4, h5, ⟨ao, c, us, h3, h6, h7, h8, h9⟩, h10⟩
  · rintro ⟨p, m, vs', h1, h2, h4, h5, ⟨ao, c, us, h3, h6, h7, h8, h9⟩, h10⟩
    exact ⟨p, m, ao, c, us, vs', h1, h2, h3, h4, h5, h6, h7, h8, h9, h10⟩

theorem Kids.length {w : World} {f : H} {a : Option Nat} {vs : List Value} {lo hi : Nat} (h : Kids w f a vs lo hi) : vs.length = f.cnt := by
  induction f generalizing a vs lo hi with
  | z => simp only [Kids] at h; subst h; rfl
  | c k r _ ih =>
    obtain ⟨p, m, vs', rfl, _, _, _, _, h1⟩ := Kids.cons.1 h
    simp [H.cnt, ih h1]

/-- They stay behind whatever leaves their blocks alone. -/
theorem Kids.go {w w' : World} {row : Option Nat} (hg : w.grownBy w' row) {f : H} {a : Option Nat} {vs : List Value} {lo hi : Nat} (h : Kids w f a vs lo hi) (hr : ∀ k, row = some k → a = some k ∨ k < lo ∨ hi ≤ k) : Kids w' f a vs lo hi := by
  induction f generalizing a vs lo hi with
  | z => exact h
  | c k r ihk ihr =>
    obtain ⟨p, m, ao, c, us, vs', h1, h2, h3, h4, h5, h6, h7, h8, h9, h10⟩ := h
    have hpm : ∀ j, row = some j → j < p ∨ m ≤ j := by
      intro j hj
      rcases hr j hj with q | q | q
      · exact h5 j q
      · exact .inl (by omega)
      · exact .inr (by omega)
    refine ⟨p, m, ao, c, us, vs', h1, h2, h3, h4, h5, ?_, ?_, h8, ?_, ?_⟩
    · rw [hg.block p (Array.getElem?_eq_some_iff.1 h6).1 (fun he => by have := hpm p he.symm; omega)]
      exact h6
    · cases hb : (Value.slice ao k.cnt c).ownBlock with
      | none => exact h7.kept hg (.inl hb)
      | some b =>
        refine h7.kept hg (.inr fun he => ?_)
        have q1 := (h7.lt b hb).1
        have q2 := h8 b hb
        have := hpm b (by rw [← he, hb])
        omega
    · exact ihk h9 (fun j hj => .inr (by have := hpm j hj; omega))
    · exact ihr h10 (fun j hj => by
        rcases hr j hj with q | q | q
        · exact .inl q
        · exact .inr (.inl (by omega))
        · exact .inr (.inr q))

theorem Kids.mono {w : World} {f : H} {a : Option Nat} {vs : List Value} {lo hi hi' : Nat} (h : Kids w f a vs lo hi) (hh : hi ≤ hi') : Kids w f a vs lo hi' := by
  induction f generalizing a vs lo hi with
  | z => exact h
  | c k r _ ihr =>
    obtain ⟨p, m, vs', h1, h2, h3, h4, h5, h6⟩ := Kids.cons.1 h
    exact Kids.cons.2 ⟨p, m, vs', h1, h2, by omega, h4, h5, ihr h6 hh⟩

/-- The pointers lie in another block now. -/
theorem Kids.at {w : World} {f : H} {a a' : Option Nat} {vs : List Value} {lo hi : Nat} (h : Kids w f a vs lo hi) (ha : ∀ b, a' = some b → a = some b ∨ hi ≤ b) : Kids w f a' vs lo hi := by
  induction f generalizing vs lo with
  | z => exact h
  | c k r _ ihr =>
    obtain ⟨p, m, vs', h1, h2, h3, h4, h5, h6⟩ := Kids.cons.1 h
    exact Kids.cons.2 ⟨p, m, vs', h1, h2, h3, fun b hb => by rcases ha b hb with h7 | h7; exact h4 b h7; exact .inr (by omega), h5, ihr h6⟩

/-- One more. -/
theorem Kids.snoc {w : World} {f e : H} {a : Option Nat} {vs : List Value} {lo p m : Nat} (h : Kids w f a vs lo p) (hl : lo ≤ p) (ha : ∀ b, a = some b → b < p ∨ m ≤ b) (he : Nd w e p m) :
    Kids w (f.app (.c e .z)) a (vs ++ [.pointer (some ⟨p, 0, none⟩)]) lo m := by
  induction f generalizing vs lo with
  | z =>
    simp only [Kids] at h
    subst h
    exact Kids.cons.2 ⟨p, m, [], rfl, hl, Nat.le_refl _, ha, he, rfl⟩
  | c k r _ ihr =>
    obtain ⟨q, n, vs', rfl, h2, h3, h4, h5, h6⟩ := Kids.cons.1 h
    have hm : p < m := by obtain ⟨_, _, _, h7, _⟩ := he; exact h7
    exact Kids.cons.2 ⟨q, n, vs' ++ [.pointer (some ⟨p, 0, none⟩)], rfl, h2, by omega, h4, h5, ihr h6 h3⟩

/-- One of them. -/
theorem Kids.pick {w : World} {t d e r : H} {a : Option Nat} {vs : List Value} {lo hi i : Nat} (h : Kids w t a vs lo hi) (h1 : d.app (.c e r) = t) (h2 : d.cnt = i) :
    ∃ p m, vs[i]? = some (.pointer (some ⟨p, 0, none⟩)) ∧ lo ≤ p ∧ m ≤ hi ∧ (∀ b, a = some b → b < p ∨ m ≤ b) ∧ Nd w e p m := by
  induction d generalizing t vs lo i with
  | z =>
    subst h1; subst h2
    obtain ⟨p, m, vs', rfl, q1, q2, q3, q4, q5⟩ := Kids.cons.1 h
    exact ⟨p, m, rfl, q1, q2, q3, q4⟩
  | c k q _ ih =>
    subst h1; subst h2
    obtain ⟨p, m, vs', rfl, q1, q2, q3, q4, q5⟩ := Kids.cons.1 h
    obtain ⟨p', m', k1, k2, k3, k4⟩ := ih q5 rfl rfl
    have : p < m := by obtain ⟨_, _, _, h7, _⟩ := q4; exact h7
    exact ⟨p', m', by simp only [H.cnt, List.getElem?_cons_succ]; exact k1, by omega, k3, k4⟩

theorem Nd.go {w w' : World} {row : Option Nat} (hg : w.grownBy w' row) {f : H} {p m : Nat} (h : Nd w f p m) (hr : ∀ k, row = some k → k < p ∨ m ≤ k) : Nd w' f p m := by
  obtain ⟨ao, c, us, q1, q2, q3, q4, q5⟩ := h
  refine ⟨ao, c, us, q1, ?_, ?_, q4, q5.go hg (fun j hj => .inr (by have := hr j hj; omega))⟩
  · rw [hg.block p (Array.getElem?_eq_some_iff.1 q2).1 (fun he => by have := hr p he.symm; omega)]
    exact q2
  · cases hb : (Value.slice ao f.cnt c).ownBlock with
    | none => exact q3.kept hg (.inl hb)
    | some b =>
      refine q3.kept hg (.inr fun he => ?_)
      have k1 := (q3.lt b hb).1
      have k2 := q4 b hb
      have := hr b (by rw [← he, hb])
      omega

theorem Nd.mono {w : World} {f : H} {p m m' : Nat} (h : Nd w f p m) (hm : m ≤ m') : Nd w f p m' := by
  obtain ⟨ao, c, us, q1, q2, q3, q4, q5⟩ := h
  exact ⟨ao, c, us, by omega, q2, q3, fun b hb => by have := q4 b hb; omega, q5.mono hm⟩

theorem Nd.below {w w' : World} {f : H} {p m : Nat} (h : Nd w f p m) (hb : Below w.heap.size w w') : Nd w' f p m :=
  h.go (row := none) ⟨hb.os, hb.tape, hb.output, hb.size, fun k hk _ => hb.block k hk⟩ (fun k hk => by cases hk)

/-- The rest of a row. -/
theorem Sl.tail {w : World} {b off len cap : Nat} {x : Int} {xs : List Int} (h : Sl w (some ⟨b, off, none⟩) len cap (x :: xs)) :
    Sl w (some ⟨b, off, none⟩) (len - 1) 0 xs ∨ 1 < cap := by
  obtain ⟨h1, h2, h3, h4⟩ := h
  by_cases hc : 1 < cap
  · exact .inr hc
  · left
    simp at h1
    have hx : xs = [] := List.eq_nil_of_length_eq_zero (by omega)
    exact ⟨by rw [hx]; simp; omega, by omega, Nat.zero_le _, fun h => by omega⟩
theorem Sl.tail2 {w : World} {b off len cap : Nat} {x : Int} {xs : List Int} (h : Sl w (some ⟨b, off, none⟩) len cap (x :: xs)) : Sl w (some ⟨b, off + 1, none⟩) (len - 1) (cap - 1) xs := by
  obtain ⟨h1, h2, h3, h4⟩ := h
  simp at h1
  obtain ⟨b', o', h5, h6⟩ := h4 (by omega)
  cases h5
  exact ⟨by omega, by omega, by omega, fun _ => ⟨b, off + 1, rfl, h6.drop 1⟩⟩

end Go.Proofs.Ytdcgcohfbcdnnaa
