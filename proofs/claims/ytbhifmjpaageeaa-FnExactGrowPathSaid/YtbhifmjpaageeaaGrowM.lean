/- Growth along ordinals, on trees: the number that is reached, and how many steps it takes. -/
import Derived.Test.YtbhifmjpaageeaaStepsD
import Derived.Test.YtbhifmjpaageeaaSteps
namespace Go.Proofs.Ytbhifmjpaageeaa
set_option maxRecDepth 100000
namespace T

/-- Grow: in at most g steps. -/
noncomputable def rise : Nat → Nat → T → Option (Nat × Nat)
  | _, n, z => some (n, 0)
  | 0, _, c _ _ _ => none
  | g + 1, n, c m e r =>
    if vldB ((c m e r).step n).enc = true ∧ ((c m e r).kind = 1 → n < 90) then
      (rise g (if (c m e r).kind = 1 then n + 1 else n) ((c m e r).step n)).map (fun p => (p.1, p.2 + 1)) else none
theorem rise_z (g n : Nat) : rise g n z = some (n, 0) := by cases g <;> rfl
theorem rise_0 (n : Nat) {t : T} (h : t ≠ z) : rise 0 n t = none := by
  cases t with
  | z => exact absurd rfl h
  | c m e r => rfl
theorem rise_s (g n : Nat) {t : T} (h : t ≠ z) : rise (g + 1) n t = if vldB (t.step n).enc = true ∧ (t.kind = 1 → n < 90) then
      (rise g (if t.kind = 1 then n + 1 else n) (t.step n)).map (fun p => (p.1, p.2 + 1)) else none := by
  cases t with
  | z => exact absurd rfl h
  | c m e r => rfl

theorem rise_bnd {g n : Nat} {t : T} {p : Nat × Nat} (h : rise g n t = some p) : n ≤ p.1 ∧ p.2 ≤ g ∧ (n ≤ 90 → p.1 ≤ 90) := by
  induction g generalizing n t p with
  | zero =>
    cases t with
    | z => rw [rise_z] at h; injection h with h; subst h; exact ⟨Nat.le_refl _, Nat.le_refl _, fun h => h⟩
    | c m e r => rw [rise_0 n (by simp)] at h; cases h
  | succ g ih =>
    cases t with
    | z => rw [rise_z] at h; injection h with h; subst h; exact ⟨Nat.le_refl _, Nat.zero_le _, fun h => h⟩
    | c m e r =>
      rw [rise_s g n (by simp)] at h
      split at h
      · rename_i hc
        cases hd : rise g (if (c m e r).kind = 1 then n + 1 else n) ((c m e r).step n) with
        | none => rw [hd] at h; cases h
        | some q =>
          rw [hd] at h
          simp only [Option.map_some, Option.some.injEq] at h
          obtain ⟨i1, i2, i3⟩ := ih hd
          subst h
          dsimp only
          split at i1
          · rename_i hk
            have := hc.2 hk
            rw [if_pos hk] at i3
            exact ⟨by omega, by omega, fun h9 => i3 (by omega)⟩
          · rename_i hk
            rw [if_neg hk] at i3
            exact ⟨by omega, by omega, fun h9 => i3 (by omega)⟩
      · cases h

/-- What a walk still has to do, told from where it began. -/
def riseFrom (R : Option (Nat × Nat)) (s g n : Nat) (t : T) : Prop := R = (rise g n t).map (fun p => (p.1, p.2 + s))
theorem riseFrom.next {R : Option (Nat × Nat)} {s g n : Nat} {t : T} (h : riseFrom R s (g + 1) n t) (ht : t ≠ z) (hv : vldB (t.step n).enc = true) :
    (t.kind = 1 → n < 90 → riseFrom R (s + 1) g (n + 1) (t.step n)) ∧ (t.kind ≠ 1 → riseFrom R (s + 1) g n (t.step n)) := by
  unfold riseFrom at *
  rw [rise_s g n ht] at h
  constructor
  · intro hk hn
    rw [if_pos ⟨hv, fun _ => hn⟩, if_pos hk] at h
    rw [h, Option.map_map]
    congr 1
    funext p
    simp only [Function.comp, Prod.mk.injEq]
    exact ⟨trivial, by omega⟩
  · intro hk
    rw [if_pos ⟨hv, fun h => absurd h hk⟩, if_neg hk] at h
    rw [h, Option.map_map]
    congr 1
    funext p
    simp only [Function.comp, Prod.mk.injEq]
    exact ⟨trivial, by omega⟩
theorem riseFrom.bad {R : Option (Nat × Nat)} {s g n : Nat} {t : T} (h : riseFrom R s g n t) (ht : t ≠ z) (hb : g = 0 ∨ vldB (t.step n).enc = false ∨ (t.kind = 1 ∧ 90 ≤ n)) : R = none := by
  unfold riseFrom at h
  cases g with
  | zero => rw [h, rise_0 n ht]; rfl
  | succ g =>
    rw [h, rise_s g n ht, if_neg]
    · rfl
    · rintro ⟨h1, h2⟩
      rcases hb with hb | hb | ⟨hb1, hb2⟩
      · cases hb
      · rw [h1] at hb; cases hb
      · have := h2 hb1; omega
theorem riseFrom.done {R : Option (Nat × Nat)} {s g n : Nat} {t : T} (h : riseFrom R s g n t) (ht : t = z) : R = some (n, s) := by
  unfold riseFrom at h
  rw [h, ht, rise_z]
  simp
theorem riseFrom.start (g n : Nat) (t : T) : riseFrom (rise g n t) 0 g n t := by
  unfold riseFrom
  cases rise g n t <;> rfl

noncomputable def growP (xs : List Int) (n : Int) : Option (Nat × Nat) := if vldB xs = true ∧ 1 ≤ n ∧ n ≤ 90 then rise 3000 n.toNat (of xs) else none
def endI : Option (Nat × Nat) → Int
  | some p => (p.1 : Int)
  | none => -1
def stairsI : Option (Nat × Nat) → Int
  | some p => (p.2 : Int)
  | none => -1
noncomputable def growE (xs : List Int) (n : Int) : Int := endI (growP xs n)
noncomputable def growS (xs : List Int) (n : Int) : Int := stairsI (growP xs n)
/-- The numbers from a on, so many. -/
def up (a k : Nat) : List Int := (List.range k).map (fun j => ((a + j : Nat) : Int))
theorem up_len (a k : Nat) : (up a k).length = k := by simp [up]
theorem up_snoc (a k : Nat) : up a k ++ [((a + k : Nat) : Int)] = up a (k + 1) := by simp [up, List.range_succ]
def pathI (n : Nat) : Option (Nat × Nat) → List Int
  | some p => up n (p.1 + 1 - n)
  | none => []
noncomputable def growRow (xs : List Int) (n : Int) : List Int := pathI n.toNat (growP xs n)
theorem growP_bad {xs : List Int} {n : Int} (h : vldB xs = false ∨ ¬ (1 ≤ n ∧ n ≤ 90)) : growP xs n = none := by
  rw [growP, if_neg]
  rintro ⟨h1, h2⟩
  rcases h with h | h
  · rw [h] at h1; cases h1
  · exact h h2
theorem growP_val {t : T} {n : Nat} (h : vldB t.enc = true) (h1 : 1 ≤ n) (h2 : n ≤ 90) : growP t.enc n = rise 3000 n t := by
  rw [growP, if_pos ⟨h, by omega, by omega⟩, of_enc]; rfl
theorem growP_bnd {xs : List Int} {n : Int} {p : Nat × Nat} (h : growP xs n = some p) : vldB xs = true ∧ 1 ≤ n ∧ n ≤ p.1 ∧ p.1 ≤ 90 ∧ p.2 ≤ 3000 ∧ rise 3000 n.toNat (of xs) = some p := by
  unfold growP at h
  split at h
  · rename_i hc
    have h1 := rise_bnd h
    exact ⟨hc.1, hc.2.1, by omega, h1.2.2 (by omega), h1.2.1, h⟩
  · cases h
theorem growRow_len (xs : List Int) (n : Int) : (growRow xs n).length ≤ 90 := by
  unfold growRow
  cases hp : growP xs n with
  | none => simp [pathI]
  | some p =>
    have := growP_bnd hp
    simp only [pathI, up_len]; omega
theorem growE_bnd (xs : List Int) (n : Int) : -1 ≤ growE xs n ∧ growE xs n ≤ 90 := by
  unfold growE
  cases hp : growP xs n with
  | none => simp [endI]
  | some p =>
    have := growP_bnd hp
    simp only [endI]; omega

end T
end Go.Proofs.Ytbhifmjpaageeaa
