/- Rows of terms whose exponents lie in new memory. -/
import Derived.Test.YtgkcpmhgmhioiaaRawKit
import Derived.Maps.AppendAt
namespace Go.Proofs.Ytgkcpmhgmhioiaa
set_option maxRecDepth 100000
open Go.RowKit

theorem own_shape {w : World} {B e n size : Nat} {v : Value} {xs : List Value} (h : w.ownsRow B e size v n xs) : ∃ a c, v = .slice a n c := by
  rcases h.2 with ⟨h1, h2⟩ | ⟨g, cap, cur, h0, _⟩
  · exact ⟨none, 0, by rw [h1, h2]⟩
  · exact ⟨_, cap, h0⟩

def IntPost (w : World) (r : List Int) (e : Ending) (w' : World) : Prop :=
  ∃ a c, e = .returned (.slice a r.length c) ∧ w'.ownsRow w.heap.size 3 1 (.slice a r.length c) r.length (ints r) ∧ Below w.heap.size w w'

/-- The program's terms: the exponents lie outside of the block r. -/
def TF (w : World) (r : Option Nat) : T → List Value → Prop
  | .z, cs => cs = []
  | .c n e q, cs => ∃ b off cap cs', cs = .int .i64 n :: .slice (some ⟨b, off, none⟩) e.enc.length cap :: cs' ∧ At w b off e.enc ∧ r ≠ some b ∧ e.enc.length ≤ cap ∧ cap ≤ maxLen ∧ TF w r q cs'

theorem TF.tc {w : World} {r : Option Nat} {t : T} {cs : List Value} (h : TF w r t cs) : TC w t cs := by
  induction t generalizing cs with
  | z => exact h
  | c n e q _ ih =>
    obtain ⟨b, off, cap, cs', rfl, h1, h2, h3, h4, h5⟩ := h
    exact ⟨b, off, cap, cs', rfl, h1, h3, h4, ih h5⟩
theorem TC.tf {w : World} {r : Option Nat} {t : T} {cs : List Value} (h : TC w t cs) (hr : ∀ k, r = some k → w.heap.size ≤ k) : TF w r t cs := by
  induction t generalizing cs with
  | z => exact h
  | c n e q _ ih =>
    obtain ⟨b, off, cap, cs', rfl, h1, h3, h4, h5⟩ := h
    have hl := h1.lt (T.enc_ne e)
    exact ⟨b, off, cap, cs', rfl, h1, fun he => by have := hr b he; omega, h3, h4, ih h5⟩
theorem TF.go {w w' : World} {row r r' : Option Nat} {t : T} {cs : List Value} (h : TF w r t cs) (hg : w.grownBy w' row) (hr : ∀ k, row = some k → row = r ∨ w.heap.size ≤ k)
    (hr' : ∀ k, r' = some k → r' = r ∨ w.heap.size ≤ k) : TF w' r' t cs := by
  induction t generalizing cs with
  | z => exact h
  | c n e q _ ih =>
    obtain ⟨b, off, cap, cs', rfl, h1, h2, h3, h4, h5⟩ := h
    have hl := h1.lt (T.enc_ne e)
    refine ⟨b, off, cap, cs', rfl, h1.grow hg (fun he => ?_), fun he => ?_, h3, h4, ih h5⟩
    · rcases hr b he with h6 | h6
      · exact h2 (h6.symm.trans he)
      · omega
    · rcases hr' b he with h6 | h6
      · exact h2 (h6.symm.trans he)
      · omega
theorem TF.below {w w' : World} {r : Option Nat} {t : T} {cs : List Value} (h : TF w r t cs) (hb : Below w.heap.size w w') : TF w' r t cs :=
  h.go (below_grown hb none) (fun k hk => by cases hk) (fun _ _ => .inl rfl)
theorem TF.join {w : World} {r : Option Nat} {d u : T} {cs ds : List Value} (h : TF w r d cs) (k : TF w r u ds) : TF w r (d.app u) (cs ++ ds) := by
  induction d generalizing cs with
  | z => simp only [TF] at h; subst h; exact k
  | c n e q _ ih =>
    obtain ⟨b, off, cap, cs', rfl, h1, h2, h3, h4, h5⟩ := h
    exact ⟨b, off, cap, _, rfl, h1, h2, h3, h4, ih h5⟩
theorem TF.snoc {w : World} {r : Option Nat} {t : T} {cs : List Value} {n : Int} {e : T} {b off cap : Nat} (h : TF w r t cs) (ha : At w b off e.enc) (hr : r ≠ some b) (hc : e.enc.length ≤ cap) (hm : cap ≤ maxLen) :
    TF w r (t.app (.c n e .z)) (cs ++ [.int .i64 n, .slice (some ⟨b, off, none⟩) e.enc.length cap]) :=
  h.join ⟨b, off, cap, [], rfl, ha, hr, hc, hm, rfl⟩

/-- The model's exponents: they lie outside of the blocks r and s. -/
def EF (w : World) (r s : Option Nat) : T → List Value → Prop
  | .z, es => es = []
  | .c _ e q, es => ∃ b off cap es', es = .slice (some ⟨b, off, none⟩) e.enc.length cap :: es' ∧ At w b off e.enc ∧ r ≠ some b ∧ s ≠ some b ∧ e.enc.length ≤ cap ∧ cap ≤ maxLen ∧ EF w r s q es'

theorem EF.ec {w : World} {r s : Option Nat} {t : T} {es : List Value} (h : EF w r s t es) : EC w t es := by
  induction t generalizing es with
  | z => exact h
  | c n e q _ ih =>
    obtain ⟨b, off, cap, es', rfl, h1, _, _, h3, h4, h5⟩ := h
    exact ⟨b, off, cap, es', rfl, h1, h3, h4, ih h5⟩
theorem EC.ef {w : World} {r s : Option Nat} {t : T} {es : List Value} (h : EC w t es) (hr : ∀ k, r = some k → w.heap.size ≤ k) (hs : ∀ k, s = some k → w.heap.size ≤ k) : EF w r s t es := by
  induction t generalizing es with
  | z => exact h
  | c n e q _ ih =>
    obtain ⟨b, off, cap, es', rfl, h1, h3, h4, h5⟩ := h
    have hl := h1.lt (T.enc_ne e)
    exact ⟨b, off, cap, es', rfl, h1, fun he => by have := hr b he; omega, fun he => by have := hs b he; omega, h3, h4, ih h5⟩
theorem EF.go {w w' : World} {row r r' s s' : Option Nat} {t : T} {es : List Value} (h : EF w r s t es) (hg : w.grownBy w' row) (hr : ∀ k, row = some k → row = r ∨ row = s ∨ w.heap.size ≤ k)
    (hr' : ∀ k, r' = some k → r' = r ∨ w.heap.size ≤ k) (hs' : ∀ k, s' = some k → s' = s ∨ w.heap.size ≤ k) : EF w' r' s' t es := by
  induction t generalizing es with
  | z => exact h
  | c n e q _ ih =>
    obtain ⟨b, off, cap, es', rfl, h1, h2, h2', h3, h4, h5⟩ := h
    have hl := h1.lt (T.enc_ne e)
    refine ⟨b, off, cap, es', rfl, h1.grow hg (fun he => ?_), fun he => ?_, fun he => ?_, h3, h4, ih h5⟩
    · rcases hr b he with h6 | h6 | h6
      · exact h2 (h6.symm.trans he)
      · exact h2' (h6.symm.trans he)
      · omega
    · rcases hr' b he with h6 | h6
      · exact h2 (h6.symm.trans he)
      · omega
    · rcases hs' b he with h6 | h6
      · exact h2' (h6.symm.trans he)
      · omega
theorem EF.below {w w' : World} {r s : Option Nat} {t : T} {es : List Value} (h : EF w r s t es) (hb : Below w.heap.size w w') : EF w' r s t es :=
  h.go (below_grown hb none) (fun k hk => by cases hk) (fun _ _ => .inl rfl) (fun _ _ => .inl rfl)
theorem EF.join {w : World} {r s : Option Nat} {d u : T} {es fs : List Value} (h : EF w r s d es) (k : EF w r s u fs) : EF w r s (d.app u) (es ++ fs) := by
  induction d generalizing es with
  | z => simp only [EF] at h; subst h; exact k
  | c n e q _ ih =>
    obtain ⟨b, off, cap, es', rfl, h1, h2, h2', h3, h4, h5⟩ := h
    exact ⟨b, off, cap, _, rfl, h1, h2, h2', h3, h4, ih h5⟩
theorem EF.snoc {w : World} {r s : Option Nat} {t : T} {es : List Value} {n : Int} {e : T} {b off cap : Nat} (h : EF w r s t es) (ha : At w b off e.enc) (hr : r ≠ some b) (hs : s ≠ some b) (hc : e.enc.length ≤ cap) (hm : cap ≤ maxLen) :
    EF w r s (t.app (.c n e .z)) (es ++ [.slice (some ⟨b, off, none⟩) e.enc.length cap]) :=
  h.join ⟨b, off, cap, [], rfl, ha, hr, hs, hc, hm, rfl⟩

/-- A row's block is below the heap's end. -/
theorem own_row_lt {w : World} {B e n size : Nat} {v : Value} {xs : List Value} (h : w.ownsRow B e size v n xs) {b : Nat} (hb : w.heap.size ≤ b) : v.ownBlock ≠ some b := by
  intro he
  have := (h.lt b he).2
  omega

/-- One append to the numbers: the exponents' row and the exponents stay. -/
theorem mul_numbers {W w' : World} {B n qn : Nat} {v9 v10 v' : Value} {q : T} {xs es : List Value} (h9 : W.ownsRow B 3 1 v9 n xs) (h10 : W.ownsRow B 23 1 v10 qn es) (hE : EF W v9.ownBlock v10.ownBlock q es)
    (hg : W.grownBy w' v9.ownBlock) (hat : v'.ownBlock = v9.ownBlock ∨ v'.ownBlock = some W.heap.size) : w'.ownsRow B 23 1 v10 qn es ∧ EF w' v'.ownBlock v10.ownBlock q es :=
  ⟨h10.kept hg (own_ne h10 h9 (by decide)), hE.go hg (fun _ _ => .inl rfl) (fun k e => by
    rcases hat with h | h
    · exact .inl h
    · right; rw [h] at e; cases e; exact Nat.le_refl _) (fun _ _ => .inl rfl)⟩

/-- One append to the exponents: the numbers' row and the exponents stay. -/
theorem mul_exps {W w' : World} {B n qn : Nat} {v9 v10 v' : Value} {q : T} {xs ys es : List Value} (h9 : W.ownsRow B 3 1 v9 n xs) (h10 : W.ownsRow B 23 1 v10 qn ys) (hE : EF W v9.ownBlock v10.ownBlock q es)
    (hg : W.grownBy w' v10.ownBlock) (hat : v'.ownBlock = v10.ownBlock ∨ v'.ownBlock = some W.heap.size) : w'.ownsRow B 3 1 v9 n xs ∧ EF w' v9.ownBlock v'.ownBlock q es :=
  ⟨h9.kept hg (own_ne h9 h10 (by decide)), hE.go hg (fun _ _ => .inr (.inl rfl)) (fun _ _ => .inl rfl) (fun k e => by
    rcases hat with h | h
    · exact .inl h
    · right; rw [h] at e; cases e; exact Nat.le_refl _)⟩

end Go.Proofs.Ytgkcpmhgmhioiaa
