/- FnGPathAll: one text out of GrowM, IterM, GrowD, GrowS, GrowPS, IterI, GrowI, GrowE, DrawGw, LFnGrowPath. -/
import Derived.Test.YthalogciiochfaaStepsD
import Derived.Test.YthalogciiochfaaSteps
import Derived.Test.YthalogciiochfaaMark
import Derived.Test.YthalogciiochfaaStepS
import Derived.Test.YthalogciiochfaaStepsL
import Derived.Maps.AppendAt
import Derived.Deep.CutBlock
import Derived.Deep.DeepCutAuto
import Derived.StillTailTactics
import Derived.Test.YthalogciiochfaaLeaf
import Derived.RangeFuncNested
import Derived.OwnWalk
import Derived.Test.YthalogciiochfaaDrawL
import Derived.Test.YthalogciiochfaaAddS
import Derived.Test.YthalogciiochfaaDraw2
import Derived.Test.YthalogciiochfaaFn1
/- GrowM -/
/- Growth along ordinals, on trees: the number that is reached, and how many steps it takes. -/
namespace Go.Proofs.Ythalogciiochfaa
set_option maxRecDepth 100000
namespace T

/-- Grow: in at most g steps. -/
noncomputable def rise : Nat → Nat → T → Option (Nat × Nat)
  | _, n, z => some (n, 0)
  | 0, _, c _ _ _ => none
  | g + 1, n, c m e r =>
    if vldB ((c m e r).step n).enc = true ∧ ((c m e r).kind = 1 → n < 90) then
      (rise g (if (c m e r).kind = 1 then n + 1 else n) ((c m e r).step n)).map (fun p => (p.1, p.2 + 1)) else none
theorem rise_z (g n : Nat) : rise g n z = some (n, 0) := by cases g <;> rfl
theorem rise_0 (n : Nat) {t : T} (h : t ≠ z) : rise 0 n t = none := by
  cases t with
  | z => exact absurd rfl h
  | c m e r => rfl
theorem rise_s (g n : Nat) {t : T} (h : t ≠ z) : rise (g + 1) n t = if vldB (t.step n).enc = true ∧ (t.kind = 1 → n < 90) then
      (rise g (if t.kind = 1 then n + 1 else n) (t.step n)).map (fun p => (p.1, p.2 + 1)) else none := by
  cases t with
  | z => exact absurd rfl h
  | c m e r => rfl

theorem rise_bnd {g n : Nat} {t : T} {p : Nat × Nat} (h : rise g n t = some p) : n ≤ p.1 ∧ p.2 ≤ g ∧ (n ≤ 90 → p.1 ≤ 90) := by
  induction g generalizing n t p with
  | zero =>
    cases t with
    | z => rw [rise_z] at h; injection h with h; subst h; exact ⟨Nat.le_refl _, Nat.le_refl _, fun h => h⟩
    | c m e r => rw [rise_0 n (by simp)] at h; cases h
  | succ g ih =>
    cases t with
    | z => rw [rise_z] at h; injection h with h; subst h; exact ⟨Nat.le_refl _, Nat.zero_le _, fun h => h⟩
    | c m e r =>
      rw [rise_s g n (by simp)] at h
      split at h
      · rename_i hc
        cases hd : rise g (if (c m e r).kind = 1 then n + 1 else n) ((c m e r).step n) with
        | none => rw [hd] at h; cases h
        | some q =>
          rw [hd] at h
          simp only [Option.map_some, Option.some.injEq] at h
          obtain ⟨i1, i2, i3⟩ := ih hd
          subst h
          dsimp only
          split at i1
          · rename_i hk
            have := hc.2 hk
            rw [if_pos hk] at i3
            exact ⟨by omega, by omega, fun h9 => i3 (by omega)⟩
          · rename_i hk
            rw [if_neg hk] at i3
            exact ⟨by omega, by omega, fun h9 => i3 (by omega)⟩
      · cases h

/-- What a walk still has to do, told from where it began. -/
def riseFrom (R : Option (Nat × Nat)) (s g n : Nat) (t : T) : Prop := R = (rise g n t).map (fun p => (p.1, p.2 + s))
theorem riseFrom.next {R : Option (Nat × Nat)} {s g n : Nat} {t : T} (h : riseFrom R s (g + 1) n t) (ht : t ≠ z) (hv : vldB (t.step n).enc = true) :
    (t.kind = 1 → n < 90 → riseFrom R (s + 1) g (n + 1) (t.step n)) ∧ (t.kind ≠ 1 → riseFrom R (s + 1) g n (t.step n)) := by
  unfold riseFrom at *
  rw [rise_s g n ht] at h
  constructor
  · intro hk hn
    rw [if_pos ⟨hv, fun _ => hn⟩, if_pos hk] at h
    rw [h, Option.map_map]
    congr 1
    funext p
    simp only [Function.comp, Prod.mk.injEq]
    exact ⟨trivial, by omega⟩
  · intro hk
    rw [if_pos ⟨hv, fun h => absurd h hk⟩, if_neg hk] at h
    rw [h, Option.map_map]
    congr 1
    funext p
    simp only [Function.comp, Prod.mk.injEq]
    exact ⟨trivial, by omega⟩
theorem riseFrom.bad {R : Option (Nat × Nat)} {s g n : Nat} {t : T} (h : riseFrom R s g n t) (ht : t ≠ z) (hb : g = 0 ∨ vldB (t.step n).enc = false ∨ (t.kind = 1 ∧ 90 ≤ n)) : R = none := by
  unfold riseFrom at h
  cases g with
  | zero => rw [h, rise_0 n ht]; rfl
  | succ g =>
    rw [h, rise_s g n ht, if_neg]
    · rfl
    · rintro ⟨h1, h2⟩
      rcases hb with hb | hb | ⟨hb1, hb2⟩
      · cases hb
      · rw [h1] at hb; cases hb
      · have := h2 hb1; omega
theorem riseFrom.done {R : Option (Nat × Nat)} {s g n : Nat} {t : T} (h : riseFrom R s g n t) (ht : t = z) : R = some (n, s) := by
  unfold riseFrom at h
  rw [h, ht, rise_z]
  simp
theorem riseFrom.start (g n : Nat) (t : T) : riseFrom (rise g n t) 0 g n t := by
  unfold riseFrom
  cases rise g n t <;> rfl

noncomputable def growP (xs : List Int) (n : Int) : Option (Nat × Nat) := if vldB xs = true ∧ 1 ≤ n ∧ n ≤ 90 then rise 3000 n.toNat (of xs) else none
def endI : Option (Nat × Nat) → Int
  | some p => (p.1 : Int)
  | none => -1
def stairsI : Option (Nat × Nat) → Int
  | some p => (p.2 : Int)
  | none => -1
noncomputable def growE (xs : List Int) (n : Int) : Int := endI (growP xs n)
noncomputable def growS (xs : List Int) (n : Int) : Int := stairsI (growP xs n)
/-- The numbers from a on, so many. -/
def up (a k : Nat) : List Int := (List.range k).map (fun j => ((a + j : Nat) : Int))
theorem up_len (a k : Nat) : (up a k).length = k := by simp [up]
theorem up_snoc (a k : Nat) : up a k ++ [((a + k : Nat) : Int)] = up a (k + 1) := by simp [up, List.range_succ]
def pathI (n : Nat) : Option (Nat × Nat) → List Int
  | some p => up n (p.1 + 1 - n)
  | none => []
noncomputable def growRow (xs : List Int) (n : Int) : List Int := pathI n.toNat (growP xs n)
theorem growP_bad {xs : List Int} {n : Int} (h : vldB xs = false ∨ ¬ (1 ≤ n ∧ n ≤ 90)) : growP xs n = none := by
  rw [growP, if_neg]
  rintro ⟨h1, h2⟩
  rcases h with h | h
  · rw [h] at h1; cases h1
  · exact h h2
theorem growP_val {t : T} {n : Nat} (h : vldB t.enc = true) (h1 : 1 ≤ n) (h2 : n ≤ 90) : growP t.enc n = rise 3000 n t := by
  rw [growP, if_pos ⟨h, by omega, by omega⟩, of_enc]; rfl
theorem growP_bnd {xs : List Int} {n : Int} {p : Nat × Nat} (h : growP xs n = some p) : vldB xs = true ∧ 1 ≤ n ∧ n ≤ p.1 ∧ p.1 ≤ 90 ∧ p.2 ≤ 3000 ∧ rise 3000 n.toNat (of xs) = some p := by
  unfold growP at h
  split at h
  · rename_i hc
    have h1 := rise_bnd h
    exact ⟨hc.1, hc.2.1, by omega, h1.2.2 (by omega), h1.2.1, h⟩
  · cases h
theorem growRow_len (xs : List Int) (n : Int) : (growRow xs n).length ≤ 90 := by
  unfold growRow
  cases hp : growP xs n with
  | none => simp [pathI]
  | some p =>
    have := growP_bnd hp
    simp only [pathI, up_len]; omega
theorem growE_bnd (xs : List Int) (n : Int) : -1 ≤ growE xs n ∧ growE xs n ≤ 90 := by
  unfold growE
  cases hp : growP xs n with
  | none => simp [endI]
  | some p =>
    have := growP_bnd hp
    simp only [endI]; omega

end T
end Go.Proofs.Ythalogciiochfaa

/- IterM -/
/- Iterations, on numbers. -/
namespace Go.Proofs.Ythalogciiochfaa
set_option maxRecDepth 100000
namespace T

/-- So many times, one after the other. -/
def many (f : Nat → Option Nat) : Nat → Nat → Option Nat
  | 0, n => some n
  | k + 1, n => (f n).bind (many f k)
def iter : Nat → Nat → Option Nat
  | 0, n => if n < 90 then some (n + 1) else none
  | l + 1, n => many (iter l) n n
def optI : Option Nat → Int
  | some m => (m : Int)
  | none => -1
def iterRes (l n : Int) : Int := if (0 ≤ l ∧ l ≤ 9) ∧ 1 ≤ n ∧ n ≤ 90 then optI (iter l.toNat n.toNat) else -1

theorem many_bnd {f : Nat → Option Nat} (hf : ∀ n m, 1 ≤ n → n ≤ 90 → f n = some m → n < m ∧ m ≤ 90) : ∀ k n m, 1 ≤ n → n ≤ 90 → many f k n = some m → n + k ≤ m ∧ m ≤ 90
  | 0, n, m, h1, h2, h => by
    simp only [many, Option.some.injEq] at h
    omega
  | k + 1, n, m, h1, h2, h => by
    simp only [many] at h
    cases hd : f n with
    | none => rw [hd] at h; cases h
    | some x =>
      rw [hd] at h
      simp only [Option.bind_some] at h
      have h3 := hf n x h1 h2 hd
      have h4 := many_bnd hf k x m (by omega) h3.2 h
      omega
theorem iter_bnd : ∀ l n m, 1 ≤ n → n ≤ 90 → iter l n = some m → n < m ∧ m ≤ 90
  | 0, n, m, h1, h2, h => by
    simp only [iter] at h
    split at h
    · injection h with h; omega
    · cases h
  | l + 1, n, m, h1, h2, h => by
    have := many_bnd (iter_bnd l) n n m h1 h2 h
    omega
theorem optI_bnd {l n : Nat} (h1 : 1 ≤ n) (h2 : n ≤ 90) : optI (iter l n) = -1 ∨ ∃ m : Nat, iter l n = some m ∧ n < m ∧ m ≤ 90 := by
  cases hd : iter l n with
  | none => exact .inl rfl
  | some m => exact .inr ⟨m, rfl, iter_bnd l n m h1 h2 hd⟩
theorem iterRes_bad {l n : Int} (h : ¬ (0 ≤ l ∧ l ≤ 9) ∨ ¬ (1 ≤ n ∧ n ≤ 90)) : iterRes l n = -1 := by
  rw [iterRes, if_neg]
  rintro ⟨h1, h2⟩
  rcases h with h | h
  · exact h h1
  · exact h h2
theorem iterRes_val {l n : Nat} (h0 : l ≤ 9) (h1 : 1 ≤ n) (h2 : n ≤ 90) : iterRes l n = optI (iter l n) := by
  rw [iterRes, if_pos ⟨⟨by omega, by omega⟩, by omega, by omega⟩]; rfl

/-- Between two rounds: what was reached after some of them. -/
def manyAt (R : Option Nat) (f : Nat → Option Nat) (k : Nat) (x : Option Nat) : Prop := R = x.bind (many f k)
theorem manyAt.next {R : Option Nat} {f : Nat → Option Nat} {k m : Nat} (h : manyAt R f (k + 1) (some m)) : manyAt R f k (f m) := by
  unfold manyAt at *
  rw [h]; rfl
theorem manyAt.none {R : Option Nat} {f : Nat → Option Nat} {k : Nat} (h : manyAt R f k none) : R = none := h
theorem manyAt.done {R : Option Nat} {f : Nat → Option Nat} {x : Option Nat} (h : manyAt R f 0 x) : R = x := by
  unfold manyAt at h
  rw [h]
  cases x <;> rfl
theorem manyAt.start {f : Nat → Option Nat} {k n : Nat} : manyAt (many f k n) f k (some n) := rfl

end T
end Go.Proofs.Ythalogciiochfaa

/- GrowD -/
/- Growth: sums are one growth behind another one; powers of w are iterations. -/
namespace Go.Proofs.Ythalogciiochfaa
set_option maxRecDepth 100000
namespace T

/-- A number becomes another one along an ordinal, in so many steps. -/
inductive Rises : T → Nat → Nat → Nat → Prop
  | z {n : Nat} : Rises z n n 0
  | s {t : T} {n e s : Nat} : t ≠ z → Rises (t.step n) (if t.kind = 1 then n + 1 else n) e s → Rises t n e (s + 1)

theorem Rises.unique {t : T} {n e s e' s' : Nat} (h : Rises t n e s) (h' : Rises t n e' s') : e = e' ∧ s = s' := by
  induction h generalizing e' s' with
  | z =>
    cases h' with
    | z => exact ⟨rfl, rfl⟩
    | s h _ => exact absurd rfl h
  | s h1 _ ih =>
    cases h' with
    | z => exact absurd rfl h1
    | s _ h3 =>
      have := ih h3
      exact ⟨this.1, by omega⟩
theorem rise_rises {g n : Nat} {t : T} {p : Nat × Nat} (h : rise g n t = some p) : Rises t n p.1 p.2 := by
  induction g generalizing n t p with
  | zero =>
    cases t with
    | z => rw [rise_z] at h; injection h with h; subst h; exact .z
    | c m e r => rw [rise_0 n (by simp)] at h; cases h
  | succ g ih =>
    cases t with
    | z => rw [rise_z] at h; injection h with h; subst h; exact .z
    | c m e r =>
      rw [rise_s g n (by simp)] at h
      split at h
      · cases hd : rise g (if (c m e r).kind = 1 then n + 1 else n) ((c m e r).step n) with
        | none => rw [hd] at h; cases h
        | some q =>
          rw [hd] at h
          simp only [Option.map_some, Option.some.injEq] at h
          subst h
          exact .s (by simp) (ih hd)
      · cases h

theorem kind_more {n : Int} {e x : T} (h : x ≠ z) : (c n e x).kind = x.kind := by
  cases x with
  | z => exact absurd rfl h
  | c m f r => rfl
theorem nat_kind {m : Int} {f r : T} (hm : 1 ≤ m) : ∀ {o : T}, o.Pos → Ge f o → (T.nat o (c m f r)).kind = (c m f r).kind
  | z, _, _ => by rw [z_nat]
  | c n e q, ho, h => by
    rcases h with ⟨h1, h2⟩ | ⟨rfl, rfl⟩
    · rw [nat_gt n m q r (by have := cmp_swap f e; omega), kind_more (nat_ne hm), nat_kind hm ho.2 h2]
    · rw [nat_eq n m z r (cmp_refl f), z_nat]
      cases r with
      | z => rfl
      | c m' f' r' => rfl

/-- Along a sum: along the second one, and then along the first one. -/
theorem Rises.nat {b o : T} {n m e p q : Nat} (hb : Rises b n m p) (ho : Rises o m e q) (pb : b.Pos) (po : o.Pos) (h : GeB b o) : Rises (T.nat o b) n e (q + p) := by
  induction hb with
  | z => rw [nat_z]; exact ho
  | @s b n m s h1 h2 ih =>
    cases b with
    | z => exact absurd rfl h1
    | c k f r =>
      refine .s (nat_ne pb.1) ?_
      rw [nat_step n pb.1 po (h k f r rfl), nat_kind pb.1 po (h k f r rfl)]
      exact ih ho (step_pos (by omega) pb) (geB_step h h1)

/-- A number, as an ordinal. -/
def nO (l : Nat) : T := if l = 0 then z else c l z z
theorem nO_s (l : Nat) : nO (l + 1) = c ((l + 1 : Nat) : Int) z z := rfl
theorem nO_kind (l : Nat) : (nO (l + 1)).kind = 1 := rfl
theorem nO_step (l : Nat) (k : Int) : (nO (l + 1)).step k = nO l := by
  rw [nO_s, step_end]
  cases l with
  | zero => rfl
  | succ l =>
    rw [if_neg (by omega), show (((l + 1 + 1 : Nat) : Int) - 1) = ((l + 1 : Nat) : Int) by omega]
    rfl
theorem rises_num : ∀ (k n : Nat), Rises (nO k) n (n + k) k
  | 0, n => .z
  | k + 1, n => by
    refine .s (by rw [nO_s]; simp) ?_
    rw [nO_step, if_pos (nO_kind k), show n + (k + 1) = n + 1 + k by omega]
    exact rises_num k (n + 1)

/-- Growth along a power of w, so many times. -/
theorem rises_times {l : Nat} (hP : ∀ n x, 1 ≤ n → iter l n = some x → ∃ s, Rises (c 1 (nO l) z) n x s) (hl : ∀ n x, 1 ≤ n → iter l n = some x → 1 ≤ x) :
    ∀ (k n m : Nat), 1 ≤ n → many (iter l) k n = some m → ∃ s, Rises (if k = 0 then z else c (k : Int) (nO l) z) n m s
  | 0, n, m, _, h => by
    simp only [many, Option.some.injEq] at h
    subst h
    exact ⟨0, .z⟩
  | k + 1, n, m, h1, h => by
    simp only [many] at h
    cases hd : iter l n with
    | none => rw [hd] at h; cases h
    | some x =>
      rw [hd] at h
      simp only [Option.bind_some] at h
      obtain ⟨s1, r1⟩ := hP n x h1 hd
      obtain ⟨s2, r2⟩ := rises_times hP hl k x m (hl n x h1 hd) h
      rw [if_neg (by omega)]
      cases k with
      | zero =>
        cases r2 with
        | z => exact ⟨s1, r1⟩
        | s h9 _ => exact absurd rfl h9
      | succ k =>
        rw [if_neg (by omega)] at r2
        refine ⟨s2 + s1, ?_⟩
        have h3 := Rises.nat r1 r2 (show (c 1 (nO l) z).Pos from ⟨by decide, trivial⟩) (show (c ((k + 1 : Nat) : Int) (nO l) z).Pos from ⟨by omega, trivial⟩) (by
          rintro m' f' r' he
          injection he with e1 e2 e3
          subst e2
          exact .inr ⟨rfl, rfl⟩)
        rw [nat_eq _ _ z z (cmp_refl _), z_nat] at h3
        rw [show (((k + 1 + 1 : Nat) : Int)) = ((k + 1 : Nat) : Int) + 1 by omega]
        exact h3
theorem iter_pos : ∀ (l n x : Nat), 1 ≤ n → iter l n = some x → n < x
  | 0, n, x, _, h => by
    simp only [iter] at h
    split at h
    · injection h with h; omega
    · cases h
  | l + 1, n, x, h1, h => by
    have hm : ∀ k n m, 1 ≤ n → many (iter l) k n = some m → n + k ≤ m := by
      intro k
      induction k with
      | zero => intro n m _ h; simp only [many, Option.some.injEq] at h; omega
      | succ k ih =>
        intro n m h1 h
        simp only [many] at h
        cases hd : iter l n with
        | none => rw [hd] at h; cases h
        | some y =>
          rw [hd] at h
          simp only [Option.bind_some] at h
          have h3 := iter_pos l n y h1 hd
          have := ih y m (by omega) h
          omega
    have := hm n n x h1 h
    omega
theorem rises_pow : ∀ (l n x : Nat), 1 ≤ n → iter l n = some x → ∃ s, Rises (c 1 (nO l) z) n x s
  | 0, n, x, _, h => by
    simp only [iter] at h
    split at h
    · injection h with h
      subst h
      exact ⟨1, .s (by simp) .z⟩
    · cases h
  | l + 1, n, x, h1, h => by
    obtain ⟨s, hs⟩ := rises_times (rises_pow l) (fun n x h1 h => by have := iter_pos l n x h1 h; omega) n n x h1 h
    rw [if_neg (by omega)] at hs
    refine ⟨s + 1, .s (by simp) ?_⟩
    rw [step_end, if_pos rfl, tail, if_neg (by rw [nO_kind]; decide), if_pos (nO_kind l), if_neg (by omega), nO_step, if_neg (by rw [kind_c1, nO_s]; simp [cnt])]
    exact hs

/-- More becomes more. -/
theorem many_mono {f : Nat → Option Nat} (hf : ∀ n n' m m', 1 ≤ n → n < n' → f n = some m → f n' = some m' → m < m') (hp : ∀ n m, 1 ≤ n → f n = some m → n < m) :
    ∀ (k n n' m m' : Nat), 1 ≤ n → n < n' → many f k n = some m → many f k n' = some m' → m < m'
  | 0, n, n', m, m', _, h2, h, h' => by
    simp only [many, Option.some.injEq] at h h'
    omega
  | k + 1, n, n', m, m', h1, h2, h, h' => by
    simp only [many] at h h'
    cases hd : f n with
    | none => rw [hd] at h; cases h
    | some x =>
      cases hd' : f n' with
      | none => rw [hd'] at h'; cases h'
      | some x' =>
        rw [hd] at h; rw [hd'] at h'
        simp only [Option.bind_some] at h h'
        have := hp n x h1 hd
        exact many_mono hf hp k x x' m m' (by omega) (hf n n' x x' h1 h2 hd hd') h h'
theorem many_more {f : Nat → Option Nat} (hp : ∀ n m, 1 ≤ n → f n = some m → n < m) :
    ∀ (k j n m : Nat), 1 ≤ n → many f (k + j) n = some m → ∃ x, many f k n = some x ∧ x ≤ m
  | 0, j, n, m, h1, h => by
    refine ⟨n, rfl, ?_⟩
    rw [Nat.zero_add] at h
    induction j generalizing n with
    | zero => simp only [many, Option.some.injEq] at h; omega
    | succ j ih =>
      simp only [many] at h
      cases hd : f n with
      | none => rw [hd] at h; cases h
      | some y =>
        rw [hd] at h
        simp only [Option.bind_some] at h
        have := hp n y h1 hd
        have := ih y (by omega) h
        omega
  | k + 1, j, n, m, h1, h => by
    rw [show k + 1 + j = (k + j) + 1 by omega] at h
    simp only [many] at h ⊢
    cases hd : f n with
    | none => rw [hd] at h; cases h
    | some y =>
      rw [hd] at h
      simp only [Option.bind_some] at h ⊢
      have := hp n y h1 hd
      exact many_more hp k j y m (by omega) h
theorem iter_mono : ∀ (l n n' m m' : Nat), 1 ≤ n → n < n' → iter l n = some m → iter l n' = some m' → m < m'
  | 0, n, n', m, m', _, h2, h, h' => by
    simp only [iter] at h h'
    split at h
    · split at h'
      · injection h with h; injection h' with h'; omega
      · cases h'
    · cases h
  | l + 1, n, n', m, m', h1, h2, h, h' => by
    simp only [iter] at h h'
    obtain ⟨j, rfl⟩ : ∃ j, n' = n + j := ⟨n' - n, by omega⟩
    obtain ⟨x, hx, hxm⟩ := many_more (iter_pos l) n j (n + j) m' (by omega) h'
    have := many_mono (iter_mono l) (iter_pos l) n n (n + j) m x h1 h2 h hx
    omega
theorem iter_one : ∀ (k n m : Nat), many (iter 0) k n = some m → m = n + k
  | 0, n, m, h => by simp only [many, Option.some.injEq] at h; omega
  | k + 1, n, m, h => by
    simp only [many] at h
    cases hd : iter 0 n with
    | none => rw [hd] at h; cases h
    | some y =>
      rw [hd] at h
      simp only [Option.bind_some] at h
      have h2 := iter_one k y m h
      simp only [iter] at hd
      split at hd
      · injection hd with hd; omega
      · cases hd

end T
end Go.Proofs.Ythalogciiochfaa

/- GrowS -/
/- Grow of the model. -/
namespace Go.Proofs.Ythalogciiochfaa
set_option maxRecDepth 100000
open Go.RowKit

def GPost (w : World) (r : List Int) (e : Ending) (w' : World) : Prop :=
  ∃ a c, e = .returned (.slice a r.length c) ∧ w'.ownsRow w.heap.size 3 1 (.slice a r.length c) r.length (ints r) ∧ Below w.heap.size w w'

def GrRel (R : Option (Nat × Nat)) (w : World) (v0 v1 v7 : Value) (wr : World) : Prop :=
  ∃ (s nn : Nat) (tm : T), s ≤ 3001 ∧ 1 ≤ nn ∧ nn ≤ 90 ∧ T.vldB tm.enc = true ∧ v7 = .int .i64 s ∧ v1 = .int .i64 nn ∧ (s ≤ 3000 → T.riseFrom R s (3000 - s) nn tm) ∧ (3001 ≤ s → R = none) ∧ Below w.heap.size w wr ∧
    ∃ bb off c, v0 = .slice (some ⟨bb, off, none⟩) tm.enc.length c ∧ tm.enc.length ≤ c ∧ c ≤ maxLen ∧ At wr bb off tm.enc

theorem T.riseFrom.go {R : Option (Nat × Nat)} {s n n' : Nat} {t : T} (h : T.riseFrom R s (3000 - s) n t) (ht : t ≠ .z) (hv : T.vldB (t.step n).enc = true) (hk : t.kind = 1 ∧ n < 90 ∧ n' = n + 1 ∨ t.kind ≠ 1 ∧ n' = n) (hs : s ≤ 3000) :
    (s + 1 ≤ 3000 → T.riseFrom R (s + 1) (3000 - (s + 1)) n' (t.step n)) ∧ (3001 ≤ s + 1 → R = none) := by
  constructor
  · intro h1
    obtain ⟨g, hg⟩ : ∃ g, 3000 - s = g + 1 := ⟨3000 - s - 1, by omega⟩
    rw [hg] at h
    rw [show 3000 - (s + 1) = g by omega]
    rcases hk with ⟨h2, h3, rfl⟩ | ⟨h2, rfl⟩
    · exact (h.next ht hv).1 h2 h3
    · exact (h.next ht hv).2 h2
  · intro h1
    exact h.bad ht (.inl (by omega))

/-- A row, as a slice. -/
theorem Sl.of_at' {w : World} {b off len cap : Nat} {t : T} (hl : len = t.enc.length) (hc : len ≤ cap) (hm : cap ≤ maxLen) (h : At w b off t.enc) : Sl w (some ⟨b, off, none⟩) len cap t.enc :=
  ⟨hl.symm, hc, hm, fun _ => ⟨b, off, rfl, h⟩⟩

set_option maxRecDepth 100000 in
set_option maxHeartbeats 4000000 in
theorem spec_Grow (ao : Option Addr) (len cap : Nat) (xs : List Int) (n : Int) (w : World) (h : Sl w ao len cap xs) (_hn0 : -9223372036854775808 ≤ n) (_hn1 : n ≤ 9223372036854775807) :
    Calls Try.prog 13 #[.slice ao len cap, .int .i64 n] w fun e w' => e = .returned (.tuple #[.int .i64 (T.growE xs n), .int .i64 (T.growS xs n)]) ∧ Below w.heap.size w w' := by
  unfold T.growE T.growS
  rcases vld_tf xs with h1 | h1
  · have k1 := Lib.hid (spec_valid ao len cap xs w h h1)
    by_cases hin : 1 ≤ n ∧ n ≤ 90
    · have ks := Lib.hid (fun w => l1In_yes n 1 90 w hin.1 hin.2)
      obtain ⟨b, off, t, rfl, rfl, hs, hos, hat, hn, hl, hp, hc, hm⟩ := h.valid h1
      obtain ⟨N, rfl⟩ : ∃ N : Nat, n = N := ⟨n.toNat, by omega⟩
      obtain ⟨R, hR⟩ : ∃ R, R = T.growP t.enc N := ⟨_, rfl⟩
      have hR2 := hR.trans (T.growP_val h1 (by omega) (by omega))
      rw [← hR]
      have HAT := Lib.hid hat
      have HN := Lib.hid hn
      have H1 := Lib.hid h1
      have HR := Lib.hid hR2
      clear h h1 hos hs hat hn _hn0 _hn1 hR hR2
      go_enter Try.func13, Try.ntmps13
      go_wp2_with fail
      refine (k1.out).mono ?_
      rintro ee w1 ⟨rfl, hb1⟩
      have hst : GrRel R w (.slice (some ⟨b, off, none⟩) len cap) (.int .i64 (N : Int)) (.int .i64 (0 : Nat)) w1 := by
        refine ⟨0, N, t, Nat.zero_le _, by omega, by omega, H1.out, rfl, rfl, fun _ => ?_, fun h => by omega, hb1, b, off, cap, ?_, ?_, hm, HAT.out.below hb1 (HAT.out.lt (T.enc_ne t))⟩
        · rw [HR.out]; exact T.riseFrom.start 3000 N t
        · rw [← HN.out]
        · rw [← HN.out]; exact hc
      have Hst := Lib.hid hst
      clear hb1 hst
      go_wp2_with fail
      refine (ks.out _).mono ?_
      rintro ee wx ⟨rfl, rfl⟩
      go_wp2_with fail
      go_loopw [0, 1, 6] (fun v0 v1 v7 wr => GrRel R w v0 v1 v7 wr) (fun _ _ v7 _ => 3001 - (intOf v7).toNat)
      case atStart => exact Hst.out
      case round =>
        obtain ⟨m, nn, tm, hm2, hn1, hn9, hvm, rfl, rfl, hrf, hno, hb, bb, off', c', rfl, hle, hcm', hata⟩ := hrel
        have Hrf := Lib.hid hrf
        have Hno := Lib.hid hno
        have HB := Lib.hid hb
        have HVM := Lib.hid hvm
        obtain ⟨ln, hln⟩ : ∃ ln, ln = tm.enc.length := ⟨_, rfl⟩
        rw [← hln] at hle ⊢
        have HLN := Lib.hid hln
        have hsl := Sl.of_at' (t := tm) hln hle hcm' hata
        have kk := Lib.hid (spec_OrdKind (some ⟨bb, off', none⟩) ln c' tm.enc wr hsl)
        rw [T.kindRow, if_pos hvm, T.of_enc] at kk
        have HSL := Lib.hid hsl
        clear hrf hno hb hata hvm hln hsl
        by_cases hlt : m ≤ 3000
        · by_cases hz : tm = .z
          · have hl1 : ln = 1 := by rw [HLN.out, hz]; rfl
            have hlb : ((ln : Int) == 1) = true := by rw [hl1]; rfl
            have HE := Lib.hid ((Hrf.out hlt).done hz)
            clear hz hl1
            go_wp2_with fail
            go_ret2
            exact ⟨by rw [HE.out]; rfl, HB.out⟩
          · have hlb : ((ln : Int) == 1) = false := by
              cases tm with
              | z => exact absurd rfl hz
              | c q f u =>
                have h1 := HLN.out
                rw [T.enc_len, T.body_c] at h1
                simp [T.enc] at h1 ⊢
                omega
            have HZ := Lib.hid hz
            obtain ⟨nr, hnr⟩ : ∃ nr, nr = T.stepRow tm.enc nn := ⟨_, rfl⟩
            obtain ⟨no, hno⟩ : ∃ no, no = T.stepOk tm.enc nn := ⟨_, rfl⟩
            have hv2 := T.stepRow_val HVM.out (show (0 : Int) ≤ nn by omega) (by omega)
            have Hnr := Lib.hid (hnr.trans hv2.1)
            have Hno1 := Lib.hid (hno.trans hv2.2)
            have Hnr0 := Lib.hid hnr
            have Hno0 := Lib.hid hno
            clear hz hnr hno hv2
            have ks2 := Lib.hid (fun w2 (hx : Below wr.heap.size wr w2) => spec_OrdStep (some ⟨bb, off', none⟩) ln c' tm.enc nn w2 (HSL.out.below hx) (by omega) (by omega))
            unfold OrdOkPost at ks2
            rw [← Hnr0.out, ← Hno0.out] at ks2
            by_cases hkd : tm.kind = 1
            · have hkb : (tm.kind == 1) = true := by rw [hkd]; rfl
              have HKD := Lib.hid hkd
              clear hkd
              go_wp2_with fail
              refine (kk.out).mono ?_
              rintro ee w2 ⟨rfl, hb2⟩
              have ks3 := Lib.hid (ks2.out w2 hb2)
              have Hb2 := Lib.hid (HB.out.trans (hb2.mono HB.out.size))
              clear hb2 ks2
              go_wp2_with fail
              refine (ks3.out).mono ?_
              rintro ee w3 ⟨a3, c3, rfl, ho3, hb3⟩
              have Hb3 := Lib.hid (Hb2.out.trans (hb3.mono Hb2.out.size))
              have Ho3 := Lib.hid ho3
              clear ho3 hb3
              cases hno2 : no with
              | false =>
                have HE := Lib.hid ((Hrf.out hlt).bad HZ.out (.inr (.inl (by rw [← Hno1.out, hno2]))))
                clear hno2
                go_wp2_with fail
                go_ret2
                exact ⟨by rw [HE.out]; rfl, Hb3.out⟩
              | true =>
                by_cases h90 : nn < 90
                · have hvn : T.vldB (tm.step nn).enc = true := by rw [← Hno1.out, hno2]
                  have hfe : nr = (tm.step nn).enc := by rw [Hnr.out, T.fit, if_pos hvn]
                  have ho3 := Ho3.out
                  rw [hfe] at ho3
                  obtain ⟨g2, rfl, hg2, hatn, hcn, hcmn⟩ := own_rowT ho3
                  have hnx := (Hrf.out hlt).go HZ.out hvn (n' := nn + 1) (.inl ⟨HKD.out, h90, rfl⟩) hlt
                  have hfin : GrRel R w (.slice (some ⟨g2, 0, none⟩) nr.length c3) (.int .i64 ((nn + 1 : Nat) : Int)) (.int .i64 ((m + 1 : Nat) : Int)) w3 :=
                    ⟨m + 1, nn + 1, tm.step nn, by omega, by omega, by omega, hvn, rfl, rfl, hnx.1, hnx.2, Hb3.out, g2, 0, c3, by rw [hfe], hcn, hcmn, hatn⟩
                  have Hfin := Lib.hid hfin
                  clear hno2 hvn hfe ho3 hatn hcn hcmn hfin hg2 hnx
                  go_wp2_with fail
                  go_roundw
                  case rel => have h := Hfin.out; simpa using h
                  case measure => simp [intOf]; omega
                · have HE := Lib.hid ((Hrf.out hlt).bad HZ.out (.inr (.inr ⟨HKD.out, by omega⟩)))
                  clear hno2
                  go_wp2_with fail
                  go_ret2
                  exact ⟨by rw [HE.out]; rfl, Hb3.out⟩
            · have hkb : (tm.kind == 1) = false := by simpa using hkd
              have HKD := Lib.hid hkd
              clear hkd
              go_wp2_with fail
              refine (kk.out).mono ?_
              rintro ee w2 ⟨rfl, hb2⟩
              have ks3 := Lib.hid (ks2.out w2 hb2)
              have Hb2 := Lib.hid (HB.out.trans (hb2.mono HB.out.size))
              clear hb2 ks2
              go_wp2_with fail
              refine (ks3.out).mono ?_
              rintro ee w3 ⟨a3, c3, rfl, ho3, hb3⟩
              have Hb3 := Lib.hid (Hb2.out.trans (hb3.mono Hb2.out.size))
              have Ho3 := Lib.hid ho3
              clear ho3 hb3
              cases hno2 : no with
              | false =>
                have HE := Lib.hid ((Hrf.out hlt).bad HZ.out (.inr (.inl (by rw [← Hno1.out, hno2]))))
                clear hno2
                go_wp2_with fail
                go_ret2
                exact ⟨by rw [HE.out]; rfl, Hb3.out⟩
              | true =>
                have hvn : T.vldB (tm.step nn).enc = true := by rw [← Hno1.out, hno2]
                have hfe : nr = (tm.step nn).enc := by rw [Hnr.out, T.fit, if_pos hvn]
                have ho3 := Ho3.out
                rw [hfe] at ho3
                obtain ⟨g2, rfl, hg2, hatn, hcn, hcmn⟩ := own_rowT ho3
                have hnx := (Hrf.out hlt).go HZ.out hvn (n' := nn) (.inr ⟨HKD.out, rfl⟩) hlt
                have hfin : GrRel R w (.slice (some ⟨g2, 0, none⟩) nr.length c3) (.int .i64 (nn : Int)) (.int .i64 ((m + 1 : Nat) : Int)) w3 :=
                  ⟨m + 1, nn, tm.step nn, by omega, by omega, by omega, hvn, rfl, rfl, hnx.1, hnx.2, Hb3.out, g2, 0, c3, by rw [hfe], hcn, hcmn, hatn⟩
                have Hfin := Lib.hid hfin
                clear hno2 hvn hfe ho3 hatn hcn hcmn hfin hg2 hnx
                go_wp2_with fail
                go_roundw
                case rel => have h := Hfin.out; simpa using h
                case measure => simp [intOf]; omega
        · have HE := Lib.hid (Hno.out (by omega))
          go_wp2_with fail
          go_ret2
          exact ⟨by rw [HE.out]; rfl, HB.out⟩
    · have ks := Lib.hid (fun w => l1In_no n 1 90 w (by omega))
      rw [T.growP_bad (xs := xs) (n := n) (.inr hin)]
      clear h h1 hin _hn0 _hn1
      go_enter Try.func13, Try.ntmps13
      go_wp2_with fail
      refine (k1.out).mono ?_
      rintro ee w1 ⟨rfl, hb1⟩
      have Hb1 := Lib.hid hb1
      clear hb1
      go_wp2_with fail
      refine (ks.out _).mono ?_
      rintro ee w2 ⟨rfl, rfl⟩
      go_wp2_with fail
      go_ret2
      exact ⟨rfl, Hb1.out⟩
  · have k1 := Lib.hid (spec_valid ao len cap xs w h h1)
    rw [T.growP_bad (xs := xs) (n := n) (.inl h1)]
    clear h h1 _hn0 _hn1
    go_enter Try.func13, Try.ntmps13
    go_wp2_with fail
    refine (k1.out).mono ?_
    rintro ee w1 ⟨rfl, hb1⟩
    have Hb1 := Lib.hid hb1
    clear hb1
    go_wp2_with fail
    go_ret2
    exact ⟨rfl, Hb1.out⟩
end Go.Proofs.Ythalogciiochfaa

/- GrowPS -/
/- GrowPath of the model. -/
namespace Go.Proofs.Ythalogciiochfaa
set_option maxRecDepth 100000
open Go.RowKit

/-- Between two rounds: the numbers that were reached. -/
def GpRel (g : Nat) (R : Option (Nat × Nat)) (n0 : Nat) (w : World) (v0 v1 v5 : Value) (wr : World) : Prop :=
  ∃ (s nn : Nat) (tm : T), g + s = 3000 ∧ n0 ≤ nn ∧ nn ≤ 90 ∧ T.vldB tm.enc = true ∧ v1 = .int .i64 nn ∧ T.riseFrom R s g nn tm ∧ Below w.heap.size w wr ∧
    ∃ q c, v5 = .slice (some ⟨q, 0, none⟩) (nn + 1 - n0) c ∧ wr.ownsRow w.heap.size 3 1 (.slice (some ⟨q, 0, none⟩) (nn + 1 - n0) c) (nn + 1 - n0) (ints (T.up n0 (nn + 1 - n0))) ∧
    ∃ bb off c', v0 = .slice (some ⟨bb, off, none⟩) tm.enc.length c' ∧ tm.enc.length ≤ c' ∧ c' ≤ maxLen ∧ At wr bb off tm.enc ∧ q ≠ bb

theorem At.past2 {w w' : World} {b off : Nat} {xs : List Int} {row : Option Nat} (h : At w b off xs) (hg : w.grownBy w' row) (hne : some b ≠ row) : At w' b off xs :=
  fun j hj => hg.cell (h j hj) hne
theorem up_one2 (n : Nat) : T.up n (n + 1 - n) = [(n : Int)] := by
  rw [show n + 1 - n = 1 by omega]
  simp [T.up]

set_option maxRecDepth 100000 in
set_option maxHeartbeats 8000000 in
theorem spec_GrowPath (ao : Option Addr) (len cap : Nat) (xs : List Int) (n : Int) (w : World) (h : Sl w ao len cap xs) (hn0 : -9223372036854775808 ≤ n) (hn1 : n ≤ 9223372036854775807) :
    Calls Try.prog 26 #[.slice ao len cap, .int .i64 n] w (GPost w (T.growRow xs n)) := by
  have k1 := Lib.hid (fun wx (hx : Below w.heap.size w wx) => spec_Grow ao len cap xs n wx (h.below hx) hn0 hn1)
  have Hlit := Lib.hid (show (w.alloc (.cells #[] 3)).ownsRow w.heap.size 3 1 (.slice (some ⟨w.heap.size, 0, none⟩) 0 0) 0 (ints []) from World.ownsRow_lit w #[] 0 (Nat.le_refl _) (by simp [maxLen]) rfl)
  have Hlb := Lib.hid ((Below.refl w.heap.size w).alloc (Nat.le_refl _) (.cells #[] 3))
  obtain ⟨i0, hi, hz0, hz1, hz2⟩ := info_parts info_int
  cases hP : T.growP xs n with
  | none =>
    have he : T.growE xs n = -1 := by rw [T.growE, hP]; rfl
    have hr : T.growRow xs n = [] := by rw [T.growRow, hP]; rfl
    rw [he] at k1
    rw [hr]
    clear h hn0 hn1 hP he hr
    go_enter Try.func26, Try.ntmps26
    go_wp2_with fail
    refine (k1.out _ Hlb.out).mono ?_
    rintro ee w1 ⟨rfl, hb1⟩
    have Hb1 := Lib.hid (Hlb.out.trans (hb1.mono Hlb.out.size))
    have Ho1 := Lib.hid (ownsRow_below' Hlit.out hb1)
    clear hb1
    go_wp2_with fail
    go_ret
    exact ⟨_, _, rfl, Ho1.out, Hb1.out⟩
  | some p =>
    obtain ⟨m, s0⟩ := p
    obtain ⟨b1, b2, b3, b4, b5, b6⟩ := T.growP_bnd hP
    dsimp only at b3 b4 b5
    have he : T.growE xs n = (m : Int) := by rw [T.growE, hP]; rfl
    obtain ⟨N, rfl⟩ : ∃ N : Nat, n = N := ⟨n.toNat, by omega⟩
    have hr : T.growRow xs N = T.up N (m + 1 - N) := by rw [T.growRow, hP]; rfl
    rw [he] at k1
    rw [hr]
    rw [Int.toNat_natCast] at b6
    obtain ⟨b, off, t, rfl, rfl, hs, hos, hat, hn, hl, hp, hc, hm⟩ := h.valid b1
    rw [T.of_enc] at b6
    have HAT := Lib.hid hat
    have HN := Lib.hid hn
    have H1 := Lib.hid b1
    have HR := Lib.hid b6.symm
    have hN1 : 1 ≤ N := by omega
    have hN9 : N ≤ 90 := by omega
    have hm0 : ¬ (m : Int) < 0 := by omega
    have hml : N ≤ m := by omega
    have hbl := hat.lt (T.enc_ne t)
    clear h hs hos hat hn hn0 hn1 hP he hr b1 b2 b3 b6
    go_enter Try.func26, Try.ntmps26
    go_wp2_with fail
    refine (k1.out _ Hlb.out).mono ?_
    rintro ee w1 ⟨rfl, hb1⟩
    have Hb1 := Lib.hid (Hlb.out.trans (hb1.mono Hlb.out.size))
    have Ho1 := Lib.hid (ownsRow_below' Hlit.out hb1)
    have hs1 := Hb1.out.size
    clear hb1
    go_wp2_with (first
      | (at_builtin; refine wpList_append_own_at _ rfl (.tmp 21) (.tmp 23) 23 rfl w.heap.size 3 i0 (.int .i64 0) 1 8 Try.underlying23 hi hz0 hz1 hz2 rfl (by decide) _ 0 (ints []) rfl (Ho1.out.alloc _) ⟨w1.heap.size, 0, none⟩ 1 1 [.int .i64 (N : Int)] rfl rfl (cell_one_new _ _ _) (ints_oneCell _ [(N : Int)]) (by unfold maxLen; omega) (by omega) (by simp; omega) ?_; intro v5 w2 ho2 hg2 _ _))
    obtain ⟨q, c, rfl⟩ := Joins.ownsRow_form ho2 (by omega)
    have hq : w.heap.size ≤ q := (ho2.lt q rfl).1
    have hst : GpRel 3000 (some (m, s0)) N w (.slice (some ⟨b, off, none⟩) len cap) (.int .i64 (N : Int)) (.slice (some ⟨q, 0, none⟩) (0 + 1) c) w2 := by
      refine ⟨0, N, t, rfl, Nat.le_refl _, hN9, H1.out, rfl, ?_, (Hb1.out.alloc hs1 _).grown hg2 (by simp; omega) (fun k e => by cases e; exact Nat.le_refl _), q, c, ?_, ?_, b, off, cap, ?_, ?_, hm, ?_, by omega⟩
      · rw [HR.out]; exact T.riseFrom.start 3000 N t
      · rw [show N + 1 - N = 1 by omega]
      · rw [up_one2, show N + 1 - N = 0 + 1 by omega]
        simpa [ints] using ho2
      · rw [← HN.out]
      · rw [← HN.out]; exact hc
      · exact ((HAT.out.below Hb1.out hbl).alloc (T.enc_ne t) _).past2 hg2 (fun e => by have h8 : b = w.heap.size := Option.some.inj e; omega)
    have Hst := Lib.hid hst
    clear hst ho2 hg2 hq
    go_wp2_with fail
    go_loopg [0, 1, 5] 3000 (fun gk v0 v1 v5 wr => GpRel gk (some (m, s0)) N w v0 v1 v5 wr)
    case atStart => exact Hst.out
    case round =>
      obtain ⟨sp, nn, tm, hgs, hn0, hn9, hvm, rfl, hrf, hb, g, c, rfl, ho, bb, off', c', rfl, hle, hcm', hata, hne⟩ := hrel
      have Hrf := Lib.hid hrf
      have HB := Lib.hid hb
      have HVM := Lib.hid hvm
      have HO := Lib.hid ho
      have HATA := Lib.hid hata
      obtain ⟨ln, hln⟩ : ∃ ln, ln = tm.enc.length := ⟨_, rfl⟩
      rw [← hln] at hle ⊢
      have HLN := Lib.hid hln
      have hbbl := hata.lt (T.enc_ne tm)
      have hsl := Lib.hid (fun wx (hx : At wx bb off' tm.enc) => Sl.of_at' (t := tm) hln hle hcm' hx)
      have kk := Lib.hid (spec_OrdKind (some ⟨bb, off', none⟩) ln c' tm.enc wr (hsl.out _ hata))
      rw [T.kindRow, if_pos hvm, T.of_enc] at kk
      have hgl : g < wr.heap.size := (ho.lt g rfl).2
      have hgB : w.heap.size ≤ g := (ho.lt g rfl).1
      have hws := hb.size
      clear hrf hb hvm ho hata hln
      by_cases hz : tm = .z
      · have hl1 : ln = 1 := by rw [HLN.out, hz]; rfl
        have hlb : ¬ (1 : Int) < ln := by omega
        have HE := Lib.hid (Option.some.inj (Hrf.out.done hz))
        obtain ⟨rfl, rfl⟩ : m = nn ∧ s0 = sp := by have h9 := HE.out; simpa using h9
        have HX := Lib.hid (show GPost w (T.up N (m + 1 - N)) (.returned (.slice (some ⟨g, 0, none⟩) (m + 1 - N) c)) wr from ⟨_, c, by rw [T.up_len], by rw [T.up_len]; exact HO.out, HB.out⟩)
        clear hz hl1
        go_wp2_with fail
        go_ret
        exact HX.out
      · have hlb : (1 : Int) < ln := by
          cases tm with
          | z => exact absurd rfl hz
          | c q f u =>
            have h1 := HLN.out
            rw [T.enc_len, T.body_c] at h1
            simp [T.enc] at h1
            omega
        have HZ := Lib.hid hz
        obtain ⟨gq, hgq⟩ : ∃ gq, gk = gq + 1 := by
          cases gk with
          | zero => exact absurd (Hrf.out.bad hz (.inl rfl)) (by simp)
          | succ gq => exact ⟨gq, rfl⟩
        subst hgq
        have hvn : T.vldB (tm.step nn).enc = true := by
          cases h9 : T.vldB (tm.step nn).enc with
          | true => rfl
          | false => exact absurd (Hrf.out.bad hz (.inr (.inl h9))) (by simp)
        have Hvn := Lib.hid hvn
        have hv2 := T.stepRow_val HVM.out (show (0 : Int) ≤ nn by omega) (by omega)
        rw [hvn, T.fit, if_pos hvn] at hv2
        have ks2 := Lib.hid (fun w2 (hx : Below wr.heap.size wr w2) => spec_OrdStep (some ⟨bb, off', none⟩) ln c' tm.enc nn w2 ((hsl.out _ HATA.out).below hx) (by omega) (by omega))
        unfold OrdOkPost at ks2
        rw [hv2.1, hv2.2] at ks2
        obtain ⟨nl, hnl⟩ : ∃ nl, nl = (tm.step nn).enc.length := ⟨_, rfl⟩
        rw [← hnl] at ks2
        have Hnl := Lib.hid hnl
        clear hz hvn hv2 hnl
        by_cases hkd : tm.kind = 1
        · have hkb : (tm.kind == 1) = true := by rw [hkd]; rfl
          have h90 : nn < 90 := by
            rcases Nat.lt_or_ge nn 90 with h9 | h9
            · exact h9
            · exact absurd (Hrf.out.bad HZ.out (.inr (.inr ⟨hkd, h9⟩))) (by simp)
          have HNX := Lib.hid ((Hrf.out.next HZ.out Hvn.out).1 hkd h90)
          clear hkd
          go_wp2_with fail
          refine (kk.out).mono ?_
          rintro ee w2 ⟨rfl, hb2⟩
          have ks3 := Lib.hid (ks2.out w2 hb2)
          have Hb2 := Lib.hid hb2
          have hs2 := hb2.size
          clear hb2 ks2
          go_wp2_with fail
          refine (ks3.out).mono ?_
          rintro ee w3 ⟨a3, c3, rfl, ho3, hb3⟩
          have Hb3 := Lib.hid ((HB.out.trans (Hb2.out.mono hws)).trans (hb3.mono (by omega)))
          have hs3 := hb3.size
          rw [Hnl.out] at ho3
          obtain ⟨g2, rfl, hg2, hatn, hcn, hcmn⟩ := own_rowT ho3
          have Hat := Lib.hid hatn
          have Hcn := Lib.hid hcn
          have HoP := Lib.hid (ownsRow_below' (ownsRow_below' HO.out Hb2.out) hb3)
          clear ho3 hb3 hatn hcn
          go_wp2_with (first
            | (at_builtin; refine wpList_append_own_at _ rfl (.tmp 41) (.tmp 43) 23 rfl w.heap.size 3 i0 (.int .i64 0) 1 8 Try.underlying23 hi hz0 hz1 hz2 rfl (by decide) _ (nn + 1 - N) (ints (T.up N (nn + 1 - N))) rfl (HoP.out.alloc _) ⟨w3.heap.size, 0, none⟩ 1 1 [.int .i64 ((nn : Int) + 1)] rfl rfl (cell_one_new _ _ _) (ints_oneCell _ [((nn : Int) + 1)]) (by unfold maxLen; omega) (by omega) (by simp; omega) ?_; intro v7 w4 ho4 hg4 _ hob4))
          obtain ⟨g7, c7, rfl⟩ := Joins.ownsRow_form ho4 (by omega)
          have hg2l := Hat.out.lt (T.enc_ne _)
          have hb4 : Below w.heap.size w w4 := (Hb3.out.alloc (by omega) _).grown hg4 (by simp; omega) (fun k e => by have h8 : g = k := Option.some.inj e; omega)
          have hfin : GpRel gq (some (m, s0)) N w (.slice (some ⟨g2, 0, none⟩) nl c3) (.int .i64 ((nn : Int) + 1)) (.slice (some ⟨g7, 0, none⟩) (nn + 1 - N + 1) c7) w4 := by
            refine ⟨sp + 1, nn + 1, tm.step nn, by omega, by omega, by omega, Hvn.out, rfl, HNX.out, hb4, g7, c7, ?_, ?_, g2, 0, c3, by rw [Hnl.out], Hcn.out, hcmn, (Hat.out.alloc (T.enc_ne _) _).past2 hg4 (fun e => by have h8 : g2 = g := Option.some.inj e; omega), ?_⟩
            · rw [show nn + 1 + 1 - N = nn + 1 - N + 1 by omega]
            · rw [show nn + 1 + 1 - N = nn + 1 - N + 1 by omega, ← T.up_snoc, show N + (nn + 1 - N) = nn + 1 by omega]
              simpa [ints] using ho4
            · rcases hob4 with h9 | h9
              · have h8 : g7 = g := Option.some.inj h9
                omega
              · have h8 : g7 = (w3.alloc (.cells #[.int .i64 ((nn : Int) + 1)] 3)).heap.size := Option.some.inj h9
                rw [World.size_alloc] at h8
                omega
          have Hfin := Lib.hid hfin
          clear hfin hb4 ho4 hg4 hob4
          go_wp2_with fail
          go_roundg gq
          case measure => omega
          case rel => exact Hfin.out
        · have hkb : (tm.kind == 1) = false := by simpa using hkd
          have HNX := Lib.hid ((Hrf.out.next HZ.out Hvn.out).2 hkd)
          clear hkd
          go_wp2_with fail
          refine (kk.out).mono ?_
          rintro ee w2 ⟨rfl, hb2⟩
          have ks3 := Lib.hid (ks2.out w2 hb2)
          have Hb2 := Lib.hid hb2
          have hs2 := hb2.size
          clear hb2 ks2
          go_wp2_with fail
          refine (ks3.out).mono ?_
          rintro ee w3 ⟨a3, c3, rfl, ho3, hb3⟩
          have Hb3 := Lib.hid ((HB.out.trans (Hb2.out.mono hws)).trans (hb3.mono (by omega)))
          have hs3 := hb3.size
          rw [Hnl.out] at ho3
          obtain ⟨g2, rfl, hg2, hatn, hcn, hcmn⟩ := own_rowT ho3
          have HoP := Lib.hid (ownsRow_below' (ownsRow_below' HO.out Hb2.out) hb3)
          have hfin : GpRel gq (some (m, s0)) N w (.slice (some ⟨g2, 0, none⟩) nl c3) (.int .i64 (nn : Int)) (.slice (some ⟨g, 0, none⟩) (nn + 1 - N) c) w3 :=
            ⟨sp + 1, nn, tm.step nn, by omega, by omega, by omega, Hvn.out, rfl, HNX.out, Hb3.out, g, c, rfl, HoP.out, g2, 0, c3, by rw [Hnl.out], hcn, hcmn, hatn, by omega⟩
          have Hfin := Lib.hid hfin
          clear hfin ho3 hb3 hatn hcn
          go_wp2_with fail
          go_roundg gq
          case measure => omega
          case rel => exact Hfin.out
end Go.Proofs.Ythalogciiochfaa

/- IterI -/
/- Iterate of the program: each kind of growth is a function in a field; each iteration captures the one below it. -/
namespace Go.Proofs.Ythalogciiochfaa
set_option maxRecDepth 100000
open Go.RowKit

theorem run_store_func (P : Program) (w : World) (a : Addr) (f : Fn) (r c : Array Value) (m : Mode) : (store a (.func f r c) m).run P w = stored P w a (.func f r c) m := run_store P w a _ m rfl
attribute [local go_sem] run_store_func

theorem run_field_growth (v : Value) (w : World) : (Instr.field 60 (.agg #[v]) 0).run Try.prog w = .ok v w := by kernel_rfl
attribute [local go_sem] run_field_growth

/-- The growth of a level: the function in its field, and what it captured. -/
def GF (A : Nat) (W : World) : Nat → Value → Prop
  | 0, v => v = .func (.func 96) #[] #[]
  | l + 1, v => ∃ b u, v = .func (.func 97) #[] #[.pointer (some ⟨b, 0, none⟩)] ∧ A < b ∧ W.cell? ⟨b, 0, none⟩ = some u ∧ GF A W l u
theorem GF.below {A : Nat} {W W' : World} {B : Nat} (h : Below B W W') (hB : W.heap.size ≤ B) : ∀ {l : Nat} {v : Value}, GF A W l v → GF A W' l v
  | 0, _, hv => hv
  | _ + 1, _, ⟨b, u, h1, h0, h2, h3⟩ => ⟨b, u, h1, h0, (h.cell (p := ⟨b, 0, none⟩) (Nat.lt_of_lt_of_le (World.block_lt_of_cell? _ _ h2) hB)).trans h2, GF.below h hB h3⟩
theorem GF.set {A B : Nat} {W : World} (hB : B ≤ A) (x : Value) : ∀ {l : Nat} {v : Value}, GF A W l v → GF A (W.setCell ⟨B, 0, none⟩ x) l v
  | 0, _, hv => hv
  | _ + 1, _, ⟨b, u, h1, h0, h2, h3⟩ => ⟨b, u, h1, h0, (World.cell?_setCell_other _ _ _ _ (by intro e; have h := congrArg Addr.block e; dsimp only at h; omega)).trans h2, GF.set hB x h3⟩

theorem oneMore1_any (n : Nat) (w : World) (h2 : n ≤ 90) :
    Calls Try.prog 96 #[.int .i64 n] w fun e w' => e = .returned (.int .i64 (T.optI (T.iter 0 n))) ∧ w = w' := by
  by_cases h9 : n < 90
  · have hr : T.optI (T.iter 0 n) = (n : Int) + 1 := by simp only [T.iter]; rw [if_pos h9]; simp [T.optI]
    have hb : ¬ (90 : Int) ≤ n := by omega
    rw [hr]
    clear hr
    go_enter Try.func96, Try.ntmps96
    go_wp2
    go_ret
    exact ⟨rfl, rfl⟩
  · have hr : T.optI (T.iter 0 n) = -1 := by simp only [T.iter]; rw [if_neg h9]; rfl
    have hb : (90 : Int) ≤ n := by omega
    rw [hr]
    clear hr
    go_enter Try.func96, Try.ntmps96
    go_wp2
    go_ret
    exact ⟨rfl, rfl⟩

/-- What a growth of a level answers. -/
def GAns (l : Nat) (v : Value) (W : World) : Prop :=
  ∃ f c, v = .func (.func f) #[] c ∧ ∀ (n : Nat) (w : World), 1 ≤ n → n ≤ 90 → Below W.heap.size W w →
    Calls Try.prog f (#[.int .i64 n] ++ c) w fun e w' => e = .returned (.int .i64 (T.optI (T.iter l n))) ∧ Below w.heap.size w w'

set_option maxHeartbeats 4000000 in
theorem iterated1_any (l b f : Nat) (c : Array Value) (n : Nat) (W w : World) (h1 : 1 ≤ n) (h2 : n ≤ 90) (hW : Below W.heap.size W w) (hb : W.cell? ⟨b, 0, none⟩ = some (.func (.func f) #[] c))
    (hf : (f = 96 ∧ c = #[]) ∨ ∃ b', f = 97 ∧ c = #[.pointer (some ⟨b', 0, none⟩)])
    (ih : ∀ (n : Nat) (w : World), 1 ≤ n → n ≤ 90 → Below W.heap.size W w → Calls Try.prog f (#[.int .i64 n] ++ c) w fun e w' => e = .returned (.int .i64 (T.optI (T.iter l n))) ∧ Below w.heap.size w w') :
    Calls Try.prog 97 #[.int .i64 n, .pointer (some ⟨b, 0, none⟩)] w fun e w' => e = .returned (.int .i64 (T.optI (T.iter (l + 1) n))) ∧ Below w.heap.size w w' := by
  have IH := Lib.hid ih
  have HW := Lib.hid hW
  have HB := Lib.hid hb
  have hbl : b < W.heap.size := World.block_lt_of_cell? _ _ hb
  obtain ⟨R, hR⟩ : ∃ R, R = T.iter (l + 1) n := ⟨_, rfl⟩
  have HR := Lib.hid (show T.manyAt R (T.iter l) n (some n) by rw [hR]; exact T.manyAt.start)
  rw [← hR]
  clear ih hW hb hR
  go_enter Try.func97, Try.ntmps97
  go_wp2_with fail
  go_loopw [4, 5] (fun v4 v5 wr => ∃ (i : Nat) (x : Option Nat), v5 = .int .i64 i ∧ i ≤ n ∧ v4 = .int .i64 (T.optI x) ∧ (∀ m, x = some m → 1 ≤ m ∧ m ≤ 90) ∧ T.manyAt R (T.iter l) (n - i) x ∧ Below w.heap.size w wr) (fun _ v5 _ => n - (intOf v5).toNat)
  case atStart => exact ⟨0, some n, rfl, by omega, rfl, fun m hm => by cases hm; exact ⟨h1, h2⟩, HR.out, Below.refl _ _⟩
  case round =>
    obtain ⟨i, x, rfl, hi, rfl, hx, hm, hbr⟩ := hrel
    have HM := Lib.hid hm
    have HBr := Lib.hid hbr
    clear hm hbr
    have hcb : wr.cell? ⟨b, 0, none⟩ = some (.func (.func f) #[] c) := ((HW.out.trans (HBr.out.mono HW.out.size)).cell (p := ⟨b, 0, none⟩) hbl).trans HB.out
    cases x with
    | none =>
      have HN := Lib.hid HM.out.none
      have hg0 : ¬ ((0 : Int) < -1) := by omega
      by_cases hin : i < n
      · have hin2 : (i : Int) < n := by omega
        simp only [T.optI]
        go_wp2_with fail
        go_ret
        exact ⟨by rw [HN.out]; rfl, HBr.out⟩
      · have hin2 : ¬ (i : Int) < n := by omega
        simp only [T.optI]
        go_wp2_with fail
        go_ret
        exact ⟨by rw [HN.out]; rfl, HBr.out⟩
    | some x =>
      have hx1 := (hx x rfl).1
      have hx2 := (hx x rfl).2
      have hg0 : (0 : Int) < x := by omega
      simp only [T.optI]
      by_cases hin : i < n
      · have hin2 : (i : Int) < n := by omega
        have k1 := Lib.hid (fun w2 (hx : Below wr.heap.size wr w2) => IH.out x w2 hx1 hx2 ((HW.out.trans (HBr.out.mono HW.out.size)).trans (hx.mono (Nat.le_trans HW.out.size HBr.out.size))))
        have hnx : T.manyAt R (T.iter l) (n - (i + 1)) (T.iter l x) := by
          have h3 := HM.out
          rw [show n - i = (n - (i + 1)) + 1 by omega] at h3
          exact h3.next
        have HNX := Lib.hid hnx
        have HY := Lib.hid (fun m (hm : T.iter l x = some m) => T.iter_bnd l x m hx1 hx2 hm)
        obtain ⟨y, hy⟩ : ∃ y, y = T.iter l x := ⟨_, rfl⟩
        rw [← hy] at k1 HNX HY
        clear hnx hx hy
        rcases hf with ⟨rfl, rfl⟩ | ⟨b', rfl, rfl⟩
        · skip
          go_wp2_with fail
          refine (k1.out _ (Below.refl _ _)).mono ?_
          rintro ee w2 ⟨rfl, hb2⟩
          have Hb2 := Lib.hid (HBr.out.trans (hb2.mono HBr.out.size))
          clear hb2
          go_wp2_with fail
          go_roundw
          case rel => exact ⟨i + 1, y, by simp, by omega, rfl, fun m hm => ⟨by have := (HY.out m hm).1; omega, (HY.out m hm).2⟩, HNX.out, Hb2.out⟩
          case measure => simp [intOf]; omega
        · skip
          go_wp2_with fail
          refine (k1.out _ (Below.refl _ _)).mono ?_
          rintro ee w2 ⟨rfl, hb2⟩
          have Hb2 := Lib.hid (HBr.out.trans (hb2.mono HBr.out.size))
          clear hb2
          go_wp2_with fail
          go_roundw
          case rel => exact ⟨i + 1, y, by simp, by omega, rfl, fun m hm => ⟨by have := (HY.out m hm).1; omega, (HY.out m hm).2⟩, HNX.out, Hb2.out⟩
          case measure => simp [intOf]; omega
      · have hin2 : ¬ (i : Int) < n := by omega
        have hRd : R = some x := by
          have h3 := HM.out
          rw [show n - i = 0 by omega] at h3
          exact h3.done
        have HRD := Lib.hid hRd
        clear hRd
        go_wp2_with fail
        go_ret
        exact ⟨by rw [HRD.out]; rfl, HBr.out⟩

theorem GF.form {A : Nat} {W : World} {f : Nat} {c : Array Value} : ∀ {l : Nat}, GF A W l (.func (.func f) #[] c) →
    (f = 96 ∧ c = #[]) ∨ ∃ b', f = 97 ∧ c = #[.pointer (some ⟨b', 0, none⟩)]
  | 0, h => by simp only [GF, Value.func.injEq, Fn.func.injEq, true_and] at h; exact .inl h
  | _ + 1, ⟨b', _, h4, _⟩ => by
    simp only [Value.func.injEq, Fn.func.injEq, true_and] at h4
    exact .inr ⟨b', h4⟩
theorem GF.ans {A : Nat} {W : World} : ∀ {l : Nat} {v : Value}, GF A W l v → GAns l v W
  | 0, v, h => ⟨96, #[], h, fun n w _ h2 _ => (oneMore1_any n w h2).mono (by rintro e w' ⟨rfl, rfl⟩; exact ⟨rfl, Below.refl _ _⟩)⟩
  | l + 1, v, ⟨b, u, h1, _, h2, h3⟩ => by
    obtain ⟨f, c, rfl, ih⟩ := GF.ans h3
    have hf : (f = 96 ∧ c = #[]) ∨ ∃ b', f = 97 ∧ c = #[.pointer (some ⟨b', 0, none⟩)] := GF.form h3
    exact ⟨97, #[.pointer (some ⟨b, 0, none⟩)], h1, fun n w hn1 hn2 hW => iterated1_any l b f c n W w hn1 hn2 hW h2 hf ih⟩

theorem oneMore_any (w : World) :
    Calls Try.prog 85 #[] w fun e w' => e = .returned (.agg #[.func (.func 96) #[] #[]]) ∧ Below w.heap.size w w' := by
  have hb : Below w.heap.size w (w.alloc (.cells #[.func (.func 96) #[] #[]] 60)) := (Below.refl _ _).alloc (Nat.le_refl _) _
  have z3 := (Boxed.new w 60 (.func (.func 96) #[] #[])).cell
  go_enter Try.func85, Try.ntmps85
  go_wp2
  exact bodyPost_ret (v := .agg #[.func (.func 96) #[] #[]]) (by simp [results, Try.f85, go_sem, z3]) rfl ⟨rfl, hb⟩
theorem iterated_any (v : Value) (w : World) :
    Calls Try.prog 86 #[.agg #[v]] w fun e w' => e = .returned (.agg #[.func (.func 97) #[] #[.pointer (some ⟨w.heap.size, 0, none⟩)]]) ∧ Below w.heap.size w w' ∧ w'.cell? ⟨w.heap.size, 0, none⟩ = some v := by
  have z4 := ((Boxed.new w 60 v).alloc (.cells #[.func (.func 97) #[] #[.pointer (some ⟨w.heap.size, 0, none⟩)]] 60)).cell
  have hx := Boxed.new (w.alloc (.cells #[v] 60)) 60 (.func (.func 97) #[] #[.pointer (some ⟨w.heap.size, 0, none⟩)])
  rw [World.size_alloc] at hx
  have z3 := hx.cell
  have hb : Below w.heap.size w ((w.alloc (.cells #[v] 60)).alloc (.cells #[.func (.func 97) #[] #[.pointer (some ⟨w.heap.size, 0, none⟩)]] 60)) := ((Below.refl _ _).alloc (Nat.le_refl _) _).alloc (by simp) _
  clear hx
  go_enter Try.func86, Try.ntmps86
  go_wp2
  exact bodyPost_ret (v := .agg #[.func (.func 97) #[] #[.pointer (some ⟨w.heap.size, 0, none⟩)]]) (by simp [results, Try.f86, go_sem, z3]) rfl ⟨rfl, hb, z4⟩

/-- Between two rounds: the growth of so many levels lies in a cell. -/
def LvRel (w : World) (A B : Nat) (v6 : Value) (wr : World) : Prop :=
  ∃ (i : Nat) (u : Value), v6 = .int .i64 i ∧ i ≤ B ∧ GF A wr i u ∧ Boxed wr A 60 u ∧ Boxed wr w.heap.size 60 .nilFunc ∧ Below w.heap.size w wr

set_option maxHeartbeats 4000000 in
theorem growthOfLevel_any (L : Nat) (w : World) (hL : L ≤ 9) :
    Calls Try.prog 58 #[.int .i64 L] w fun e w' => ∃ A u, e = .returned (.agg #[u]) ∧ GF A w' L u ∧ Below w.heap.size w w' := by
  have k1 := Lib.hid (fun w => oneMore_any w)
  have k2 := Lib.hid (fun v w => iterated_any v w)
  have h0 := Boxed.new w 60 .nilFunc
  have H0 := Lib.hid h0
  clear h0
  go_enter Try.func58, Try.ntmps58
  go_wp2_with fail
  refine (k1.out _).mono ?_
  rintro ee w1 ⟨rfl, hb1⟩
  have h1 := Boxed.new w1 60 (.func (.func 96) #[] #[])
  have hs := hb1.size
  rw [World.size_alloc] at hs
  have h0 : Boxed w1 w.heap.size 60 .nilFunc := (hb1.block _ (by simp)).trans H0.out
  have hst : LvRel w w1.heap.size L (.int .i64 (0 : Nat)) (w1.alloc (.cells #[.func (.func 96) #[] #[]] 60)) :=
    ⟨0, _, rfl, Nat.zero_le _, rfl, h1, h0.alloc _, ((((Below.refl _ _).alloc (Nat.le_refl _) _).trans (hb1.mono (by simp))).alloc (by omega) _)⟩
  have Hst := Lib.hid hst
  have hA : w.heap.size < w1.heap.size := by omega
  clear h1 h0 hst hb1 hs
  go_wp2_with fail
  obtain ⟨A, hAe⟩ : ∃ A, A = w1.heap.size := ⟨_, rfl⟩
  rw [← hAe] at Hst hA ⊢
  clear hAe
  go_loopw [6] (fun v6 wr => LvRel w A L v6 wr) (fun v6 _ => L - (intOf v6).toNat)
  case atStart => exact Hst.out
  case round =>
    obtain ⟨i, u, rfl, hi, hgf, hb, hr, hbw⟩ := hrel
    have HG := Lib.hid hgf
    have HB := Lib.hid hb
    have HR := Lib.hid hr
    have HBw := Lib.hid hbw
    have z1 := hb.cell
    have z2 := hb.frozen
    have z3 := hr.cell
    have z4 := hr.frozen
    clear hgf hb hr hbw
    by_cases hin : i < L
    · have hin2 : (i : Int) < L := by omega
      go_wp2_with fail
      refine (k2.out _ _).mono ?_
      rintro ee w2 ⟨rfl, hb2, hc2⟩
      have h1 : Boxed w2 A 60 u := (hb2.block _ HB.out.lt).trans HB.out
      have h2 : Boxed w2 w.heap.size 60 .nilFunc := (hb2.block _ HR.out.lt).trans HR.out
      have hg2 : GF A w2 i u := HG.out.below hb2 (Nat.le_refl _)
      have y1 := h1.cell
      have y2 := h1.frozen
      have hAlt := HB.out.lt
      have hwl := HBw.out.size
      have hfin : LvRel w A L (.int .i64 ((i + 1 : Nat) : Int)) (w2.setCell ⟨A, 0, none⟩ (.func (.func 97) #[] #[.pointer (some ⟨wr.heap.size, 0, none⟩)])) := by
        refine ⟨i + 1, _, rfl, by omega, ⟨wr.heap.size, u, rfl, hAlt, ?_, hg2.set (Nat.le_refl _) _⟩, h1.set _, h2.other (by omega) _, (HBw.out.trans (hb2.mono hwl)).setCell (p := ⟨A, 0, none⟩) (by show w.heap.size ≤ A; omega) _⟩
        exact (World.cell?_setCell_other _ _ _ _ (by intro e; have h := congrArg Addr.block e; dsimp only at h; omega)).trans hc2
      have Hfin := Lib.hid hfin
      clear hb2 hc2 h1 h2 hg2 hfin z1 z2 z3 z4
      go_wp2_with fail
      go_roundw
      case rel => have h := Hfin.out; simpa using h
      case measure => simp [intOf]; omega
    · have hin2 : ¬ (i : Int) < L := by omega
      obtain rfl : i = L := by omega
      obtain ⟨f, c, rfl, _⟩ := HG.out.ans
      have y3 := (HR.out.set (.func (.func f) #[] c)).cell
      have hbf : Below w.heap.size w (wr.setCell ⟨w.heap.size, 0, none⟩ (.func (.func f) #[] c)) := HBw.out.setCell (p := ⟨w.heap.size, 0, none⟩) (by simp) _
      have Hbf := Lib.hid hbf
      clear hbf
      go_wp2_with fail
      refine bodyPost_ret (v := .agg #[.func (.func f) #[] c]) (by simp [results, Try.f58, go_sem, y3]) rfl ⟨A, _, rfl, HG.out.set (by omega) _, Hbf.out⟩

set_option maxHeartbeats 4000000 in
theorem isGrowing_any (n : Int) (w : World) :
    Calls Try.prog 57 #[.int .i64 n] w fun e w' => e = .returned (.bool (decide (1 ≤ n ∧ n ≤ 90))) ∧ w = w' := by
  by_cases h0 : 1 ≤ n
  · by_cases h1 : n ≤ 90
    · have hr : decide (1 ≤ n ∧ n ≤ 90) = true := by simp [h0, h1]
      rw [hr]
      clear hr
      go_enter Try.func57, Try.ntmps57
      go_wp2
      go_ret
      exact ⟨rfl, rfl⟩
    · have hr : decide (1 ≤ n ∧ n ≤ 90) = false := by simp [h1]
      have hd : decide (n ≤ 90) = false := by simp [h1]
      rw [hr]
      clear hr
      go_enter Try.func57, Try.ntmps57
      go_wp2
      go_ret
      exact ⟨rfl, rfl⟩
  · have hr : decide (1 ≤ n ∧ n ≤ 90) = false := by simp [h0]
    have hd : decide (1 ≤ n) = false := by simp [h0]
    rw [hr]
    clear hr
    go_enter Try.func57, Try.ntmps57
    go_wp2
    go_ret
    exact ⟨rfl, rfl⟩

set_option maxHeartbeats 4000000 in
theorem impl_Iterate (l n : Int) (w : World) (_hl0 : -9223372036854775808 ≤ l) (_hl1 : l ≤ 9223372036854775807) (_hn0 : -9223372036854775808 ≤ n) (_hn1 : n ≤ 9223372036854775807) :
    Calls Try.prog 20 #[.int .i64 l, .int .i64 n] w fun e w' => e = .returned (.int .i64 (T.iterRes l n)) ∧ Below w.heap.size w w' := by
  have kg := Lib.hid (isGrowing_any n w)
  by_cases hl : l < 0
  · rw [T.iterRes_bad (.inl (by omega))]
    clear kg
    go_enter Try.func20, Try.ntmps20
    go_wp2_with fail
    go_ret
    exact ⟨rfl, Below.refl _ _⟩
  · by_cases hl9 : 9 < l
    · rw [T.iterRes_bad (.inl (by omega))]
      clear kg
      go_enter Try.func20, Try.ntmps20
      go_wp2_with fail
      go_ret
      exact ⟨rfl, Below.refl _ _⟩
    · by_cases h2 : 1 ≤ n ∧ n ≤ 90
      · rw [decide_eq_true h2] at kg
        obtain ⟨L, rfl⟩ : ∃ L : Nat, l = L := ⟨l.toNat, by omega⟩
        obtain ⟨N, rfl⟩ : ∃ N : Nat, n = N := ⟨n.toNat, by omega⟩
        rw [T.iterRes_val (by omega) (by omega) (by omega)]
        have hn1 : 1 ≤ N := by omega
        have hn2 : N ≤ 90 := by omega
        have k1 := Lib.hid (growthOfLevel_any L w (by omega))
        obtain ⟨r, hr⟩ : ∃ r, r = T.optI (T.iter L N) := ⟨_, rfl⟩
        have Hr := Lib.hid hr
        rw [← hr]
        clear h2 hr
        go_enter Try.func20, Try.ntmps20
        go_wp2_with fail
        refine (kg.out).mono ?_
        rintro ee wx ⟨rfl, rfl⟩
        go_wp2_with fail
        refine (k1.out).mono ?_
        rintro ee w1 ⟨A, u, rfl, hg, hb⟩
        obtain ⟨f, c, rfl, ha⟩ := hg.ans
        have k2 := Lib.hid (ha N w1 hn1 hn2 (Below.refl _ _))
        have hfm := hg.form
        have Hb := Lib.hid hb
        rw [← Hr.out] at k2
        clear hg hb ha
        rcases hfm with ⟨rfl, rfl⟩ | ⟨b', rfl, rfl⟩
        · go_wp2_with fail
          refine (k2.out).mono ?_
          rintro ee w2 ⟨rfl, hb2⟩
          have Hb2 := Lib.hid (Hb.out.trans (hb2.mono Hb.out.size))
          clear hb2
          go_wp2_with fail
          go_ret
          exact ⟨rfl, Hb2.out⟩
        · go_wp2_with fail
          refine (k2.out).mono ?_
          rintro ee w2 ⟨rfl, hb2⟩
          have Hb2 := Lib.hid (Hb.out.trans (hb2.mono Hb.out.size))
          clear hb2
          go_wp2_with fail
          go_ret
          exact ⟨rfl, Hb2.out⟩
      · rw [T.iterRes_bad (.inr h2)]
        rw [decide_eq_false h2] at kg
        clear h2
        go_enter Try.func20, Try.ntmps20
        go_wp2_with fail
        refine (kg.out).mono ?_
        rintro ee wx ⟨rfl, rfl⟩
        go_wp2_with fail
        go_ret
        exact ⟨rfl, Below.refl _ _⟩
end Go.Proofs.Ythalogciiochfaa

/- GrowI -/
/- Grow and GrowPath of the program: the climb along an ordinal. -/
namespace Go.Proofs.Ythalogciiochfaa
set_option maxRecDepth 100000
open Go.RowKit

attribute [local go_sem] run_store_func

attribute [local go_sem] run_field_growth
theorem unchanged1_any (n : Nat) (w : World) :
    Calls Try.prog 99 #[.int .i64 n] w fun e w' => e = .returned (.int .i64 n) ∧ w = w' := by
  go_enter Try.func99, Try.ntmps99
  go_wp2
  go_ret
  exact ⟨rfl, rfl⟩
theorem unchanged_any (w : World) :
    Calls Try.prog 94 #[] w fun e w' => e = .returned (.agg #[.func (.func 99) #[] #[]]) ∧ Below w.heap.size w w' := by
  have hb : Below w.heap.size w (w.alloc (.cells #[.func (.func 99) #[] #[]] 60)) := (Below.refl _ _).alloc (Nat.le_refl _) _
  have z3 := (Boxed.new w 60 (.func (.func 99) #[] #[])).cell
  go_enter Try.func94, Try.ntmps94
  go_wp2
  exact bodyPost_ret (v := .agg #[.func (.func 99) #[] #[]]) (by simp [results, Try.f94, go_sem, z3]) rfl ⟨rfl, hb⟩
theorem oneMore1_yes (n : Nat) (w : World) (h : n < 90) :
    Calls Try.prog 96 #[.int .i64 n] w fun e w' => e = .returned (.int .i64 ((n + 1 : Nat) : Int)) ∧ w = w' := by
  have h1 := oneMore1_any n w (by omega)
  rw [show T.optI (T.iter 0 n) = ((n + 1 : Nat) : Int) by simp only [T.iter]; rw [if_pos h]; rfl] at h1
  exact h1
theorem oneMore1_no (n : Nat) (w : World) (h : n ≤ 90) (h' : 90 ≤ n) :
    Calls Try.prog 96 #[.int .i64 n] w fun e w' => e = .returned (.int .i64 (-1)) ∧ w = w' := by
  have h1 := oneMore1_any n w h
  rw [show T.optI (T.iter 0 n) = -1 by simp only [T.iter]; rw [if_neg (by omega)]; rfl] at h1
  exact h1

set_option maxHeartbeats 4000000 in
theorem growthAt_any (b off n cap : Nat) (t : T) (w : World) (hn : n = t.enc.length) (hb : n ≤ 1000000000000) (hc : n ≤ cap) (hm : cap ≤ maxLen) (hat : At w b off t.enc) :
    Calls Try.prog 81 #[.slice (some ⟨b, off, none⟩) n cap] w fun e w' => e = .returned (.agg #[.func (.func (if t.kind = 1 then 96 else 99)) #[] #[]]) ∧ Below w.heap.size w w' := by
  have kk := Lib.hid (fun wx (hx : Below w.heap.size w wx) => kindOf_any b off n cap t wx hn hb hc hm (hat.below hx (hat.lt (T.enc_ne t))))
  have k1 := Lib.hid (fun w => oneMore_any w)
  have k2 := Lib.hid (fun w => unchanged_any w)
  have h0 := Boxed.new w 60 .nilFunc
  have Hba := Lib.hid (show Below w.heap.size w (w.alloc (.cells #[.nilFunc] 60)) from (Below.refl _ _).alloc (Nat.le_refl _) _)
  have H0 := Lib.hid h0
  obtain ⟨kd, hkd⟩ : ∃ kd, kd = t.kind := ⟨_, rfl⟩
  rw [← hkd] at kk ⊢
  clear hn hb hc hm hat h0 hkd
  by_cases hk : kd = 1
  · have hkb : (kd == 1) = true := by rw [hk]; rfl
    rw [if_pos hk]
    clear hk
    go_enter Try.func81, Try.ntmps81
    go_wp2_with fail
    refine (kk.out _ Hba.out).mono ?_
    rintro ee w1 ⟨rfl, hb1⟩
    have Hb1 := Lib.hid (Hba.out.trans (hb1.mono Hba.out.size))
    have Hx1 := Lib.hid (show Boxed w1 w.heap.size 60 .nilFunc from (hb1.block _ (by simp)).trans H0.out)
    clear hb1
    go_wp2_with fail
    refine (k1.out _).mono ?_
    rintro ee w2 ⟨rfl, hb2⟩
    have hx2 : Boxed w2 w.heap.size 60 .nilFunc := (hb2.block _ Hx1.out.lt).trans Hx1.out
    have z1 := hx2.cell
    have z2 := hx2.frozen
    have z3 := (hx2.set (.func (.func 96) #[] #[])).cell
    have Hb2 := Lib.hid ((Hb1.out.trans (hb2.mono Hb1.out.size)).setCell (p := ⟨w.heap.size, 0, none⟩) (Nat.le_refl _) (.func (.func 96) #[] #[]))
    clear hb2 hx2
    go_wp2_with fail
    exact bodyPost_ret (v := .agg #[.func (.func 96) #[] #[]]) (by simp [results, Try.f81, go_sem, z3]) rfl ⟨rfl, Hb2.out⟩
  · have hkb : (kd == 1) = false := by simpa using hk
    rw [if_neg hk]
    clear hk
    go_enter Try.func81, Try.ntmps81
    go_wp2_with fail
    refine (kk.out _ Hba.out).mono ?_
    rintro ee w1 ⟨rfl, hb1⟩
    have Hb1 := Lib.hid (Hba.out.trans (hb1.mono Hba.out.size))
    have Hx1 := Lib.hid (show Boxed w1 w.heap.size 60 .nilFunc from (hb1.block _ (by simp)).trans H0.out)
    clear hb1
    go_wp2_with fail
    refine (k2.out _).mono ?_
    rintro ee w2 ⟨rfl, hb2⟩
    have hx2 : Boxed w2 w.heap.size 60 .nilFunc := (hb2.block _ Hx1.out.lt).trans Hx1.out
    have z1 := hx2.cell
    have z2 := hx2.frozen
    have z3 := (hx2.set (.func (.func 99) #[] #[])).cell
    have Hb2 := Lib.hid ((Hb1.out.trans (hb2.mono Hb1.out.size)).setCell (p := ⟨w.heap.size, 0, none⟩) (Nat.le_refl _) (.func (.func 99) #[] #[]))
    clear hb2 hx2
    go_wp2_with fail
    exact bodyPost_ret (v := .agg #[.func (.func 99) #[] #[]]) (by simp [results, Try.f81, go_sem, z3]) rfl ⟨rfl, Hb2.out⟩

def ClRel (R : Option (Nat × Nat)) (n0 : Nat) (w : World) (v0 v1 v7 v8 : Value) (wr : World) : Prop :=
  ∃ (s nn : Nat) (tm : T), s ≤ 3000 ∧ n0 ≤ nn ∧ nn ≤ 90 ∧ T.vldB tm.enc = true ∧ v8 = .int .i64 s ∧ v1 = .int .i64 nn ∧ T.riseFrom R s (3000 - s) nn tm ∧ Below w.heap.size w wr ∧
    ∃ g c, v7 = .slice (some ⟨g, 0, none⟩) (nn + 1 - n0) c ∧ wr.ownsRow w.heap.size 3 1 (.slice (some ⟨g, 0, none⟩) (nn + 1 - n0) c) (nn + 1 - n0) (ints (T.up n0 (nn + 1 - n0))) ∧
    ∃ bb off c', v0 = .slice (some ⟨bb, off, none⟩) tm.enc.length c' ∧ tm.enc.length ≤ c' ∧ c' ≤ maxLen ∧ At wr bb off tm.enc ∧ g ≠ bb

def ClPost (w : World) (n0 : Nat) (R : Option (Nat × Nat)) (e : Ending) (w' : World) : Prop :=
  (R = none ∧ e = .returned (.tuple #[.slice none 0 0, .int .i64 0, .bool false]) ∧ Below w.heap.size w w') ∨
  ∃ (m s : Nat) (a : Option Addr) (c : Nat), R = some (m, s) ∧ n0 ≤ m ∧ m ≤ 90 ∧ e = .returned (.tuple #[.slice a (m + 1 - n0) c, .int .i64 s, .bool true]) ∧
    w'.ownsRow w.heap.size 3 1 (.slice a (m + 1 - n0) c) (m + 1 - n0) (ints (T.up n0 (m + 1 - n0))) ∧ Below w.heap.size w w'

theorem At.past {w w' : World} {b off : Nat} {xs : List Int} {row : Option Nat} (h : At w b off xs) (hg : w.grownBy w' row) (hne : some b ≠ row) : At w' b off xs :=
  fun j hj => hg.cell (h j hj) hne

theorem up_one (n : Nat) : T.up n (n + 1 - n) = [(n : Int)] := by
  rw [show n + 1 - n = 1 by omega]
  simp [T.up]

set_option maxRecDepth 100000 in
set_option maxHeartbeats 8000000 in
theorem climb_any (ao : Option Addr) (len cap : Nat) (xs : List Int) (n : Int) (w : World) (h : Sl w ao len cap xs) (_hn0 : -9223372036854775808 ≤ n) (_hn1 : n ≤ 9223372036854775807) :
    Calls Try.prog 48 #[.slice ao len cap, .int .i64 n] w (ClPost w n.toNat (T.growP xs n)) := by
  have ks := Lib.hid (isGrowing_any n)
  rcases vld_tf xs with h1 | h1
  · have k1 := Lib.hid (impl_valid ao len cap xs w h h1)
    by_cases hin : 1 ≤ n ∧ n ≤ 90
    · rw [decide_eq_true hin] at ks
      obtain ⟨b, off, t, rfl, rfl, hs, hos, hat, hn, hl, hp, hc, hm⟩ := h.valid h1
      obtain ⟨N, rfl⟩ : ∃ N : Nat, n = N := ⟨n.toNat, by omega⟩
      obtain ⟨i0, hi, hz0, hz1, hz2⟩ := info_parts info_int
      obtain ⟨R, hR⟩ : ∃ R, R = T.growP t.enc N := ⟨_, rfl⟩
      have hR2 := hR.trans (T.growP_val h1 (by omega) (by omega))
      rw [← hR, Int.toNat_natCast]
      have HAT := Lib.hid hat
      have HN := Lib.hid hn
      have H1 := Lib.hid h1
      have HR := Lib.hid hR2
      have hN1 : 1 ≤ N := by omega
      have hN9 : N ≤ 90 := by omega
      clear h h1 hos hs hat hn _hn0 _hn1 hR hR2 hin
      go_enter Try.func48, Try.ntmps48
      go_wp2_with fail
      refine (k1.out).mono ?_
      rintro ee w1 ⟨rfl, hb1⟩
      have hs1 := hb1.size
      have hbl := HAT.out.lt (T.enc_ne t)
      have hst : ClRel R N w (.slice (some ⟨b, off, none⟩) len cap) (.int .i64 (N : Int)) (.slice (some ⟨w1.heap.size, 0, none⟩) 1 1) (.int .i64 (0 : Nat)) (w1.alloc (.cells #[.int .i64 N] 3)) := by
        refine ⟨0, N, t, Nat.zero_le _, Nat.le_refl _, hN9, H1.out, rfl, rfl, ?_, hb1.alloc hs1 _, w1.heap.size, 1, ?_, ?_, b, off, cap, ?_, ?_, hm, (HAT.out.below hb1 hbl).alloc (T.enc_ne t) _, by omega⟩
        · rw [HR.out]; exact T.riseFrom.start 3000 N t
        · rw [show N + 1 - N = 1 by omega]
        · rw [up_one, show N + 1 - N = 1 by omega]
          exact World.ownsRow_lit w1 _ 1 hs1 (by simp [maxLen]) rfl
        · rw [← HN.out]
        · rw [← HN.out]; exact hc
      have Hst := Lib.hid hst
      clear hb1 hst
      go_wp2_with fail
      refine (ks.out _).mono ?_
      rintro ee wx ⟨rfl, rfl⟩
      go_wp2_with fail
      go_loopw [0, 1, 7, 8] (fun v0 v1 v7 v8 wr => ClRel R N w v0 v1 v7 v8 wr) (fun _ _ _ v8 _ => 3000 - (intOf v8).toNat)
      case atStart => exact Hst.out
      case round =>
        obtain ⟨m, nn, tm, hm2, hn0, hn9, hvm, rfl, rfl, hrf, hb, g, c, rfl, ho, bb, off', c', rfl, hle, hcm', hata, hne⟩ := hrel
        have Hrf := Lib.hid hrf
        have HB := Lib.hid hb
        have HVM := Lib.hid hvm
        have HO := Lib.hid ho
        have HNE := Lib.hid hne
        have HATA := Lib.hid hata
        obtain ⟨ln, hln⟩ : ∃ ln, ln = tm.enc.length := ⟨_, rfl⟩
        rw [← hln] at hle ⊢
        have HLN := Lib.hid hln
        have hbbl := hata.lt (T.enc_ne tm)
        have hl60 : ln ≤ 60 := by rw [hln]; exact (T.vldB_true.1 hvm).1
        have kz := Lib.hid (fun wx (hx : At wx bb off' tm.enc) => isZero_any bb off' ln c' (tm.cnt : Int) wx (by rw [hln, T.enc_len]; omega) hx.head)
        clear hrf hb hvm ho hne hata hln
        by_cases htz : tm.cnt = 0
        · have hzb : ((tm.cnt : Int) == 0) = true := by rw [htz]; rfl
          have HE := Lib.hid (Hrf.out.done (T.cnt_zero htz))
          rw [hzb] at kz
          clear htz hzb
          go_wp2_with fail
          refine (kz.out _ HATA.out).mono ?_
          rintro ee wx ⟨rfl, rfl⟩
          go_wp2_with fail
          refine (kz.out _ HATA.out).mono ?_
          rintro ee wx ⟨rfl, rfl⟩
          go_wp2_with fail
          go_ret3
          exact .inr ⟨nn, m, _, c, HE.out, hn0, hn9, rfl, HO.out, HB.out⟩
        · have hzb : ((tm.cnt : Int) == 0) = false := by simpa using htz
          have hz : tm ≠ .z := fun h => htz (by rw [h]; rfl)
          have HZ := Lib.hid hz
          rw [hzb] at kz
          clear htz hzb hz
          by_cases hlt : m < 3000
          · have hlt2 : (m : Int) < 3000 := by omega
            have kg := Lib.hid (fun wx (hx : Below wr.heap.size wr wx) => growthAt_any bb off' ln c' tm wx HLN.out (by omega) hle hcm' (HATA.out.below hx hbbl))
            have kd := Lib.hid (fun wx (hx : Below wr.heap.size wr wx) => stepDown_any (nn : Int) (by omega) (by omega) bb off' ln c' tm wx HLN.out hl60 hle hcm' (HATA.out.below hx hbbl) (T.nf_enc HVM.out))
            obtain ⟨nr, hnr⟩ : ∃ nr, nr = T.fit (tm.step nn) := ⟨_, rfl⟩
            obtain ⟨no, hno⟩ : ∃ no, no = T.vldB (tm.step nn).enc := ⟨_, rfl⟩
            unfold OrdOkPost at kd
            rw [← hnr, ← hno] at kd
            have Hnr := Lib.hid hnr
            have Hno := Lib.hid hno
            have hgl : g < wr.heap.size := (HO.out.lt g rfl).2
            have hws := HB.out.size
            clear hnr hno
            by_cases hkd : tm.kind = 1
            · simp only [if_pos hkd] at kg
              have HKD := Lib.hid hkd
              clear hkd
              by_cases h90 : nn < 90
              · have ko := Lib.hid (fun w => oneMore1_yes nn w h90)
                have hgt : ((nn : Int) : Int) < ((nn + 1 : Nat) : Int) := by omega
                go_wp2_with fail
                refine (kz.out _ HATA.out).mono ?_
                rintro ee wx ⟨rfl, rfl⟩
                go_wp2_with fail
                refine (kg.out _ (Below.refl _ _)).mono ?_
                rintro ee w2 ⟨rfl, hb2⟩
                have Hb2 := Lib.hid hb2
                have hs2 := hb2.size
                have kd2 := Lib.hid (kd.out w2 hb2)
                clear hb2
                go_wp2_with fail
                refine (ko.out w2).mono ?_
                rintro ee wx ⟨rfl, rfl⟩
                go_wp2_with fail
                refine (kd2.out).mono ?_
                rintro ee w3 ⟨a3, c3, rfl, ho3, hb3⟩
                have Hb3 := Lib.hid ((HB.out.trans (Hb2.out.mono hws)).trans (hb3.mono (by omega)))
                have Ho3 := Lib.hid ho3
                have HoP := Lib.hid (ownsRow_below' (ownsRow_below' HO.out Hb2.out) hb3)
                have hs3 := hb3.size
                clear ho3 hb3
                cases hno2 : no with
                | false =>
                  have HE := Lib.hid (Hrf.out.bad HZ.out (.inr (.inl (by rw [← Hno.out, hno2]))))
                  clear hno2
                  go_wp2_with fail
                  go_ret3
                  exact .inl ⟨HE.out, rfl, Hb3.out⟩
                | true =>
                  have hvn : T.vldB (tm.step nn).enc = true := by rw [← Hno.out, hno2]
                  have hfe : nr = (tm.step nn).enc := by rw [Hnr.out, T.fit, if_pos hvn]
                  have ho3 := Ho3.out
                  rw [hfe] at ho3
                  obtain ⟨g2, rfl, hg2, hatn, hcn, hcmn⟩ := own_rowT ho3
                  obtain ⟨gq, hgq⟩ : ∃ gq, 3000 - m = gq + 1 := ⟨3000 - m - 1, by omega⟩
                  have hrf := Hrf.out
                  rw [hgq] at hrf
                  have hnx := (hrf.next HZ.out hvn).1 HKD.out h90
                  rw [show gq = 3000 - (m + 1) by omega] at hnx
                  have Hnx := Lib.hid hnx
                  have Hvn := Lib.hid hvn
                  have Hfe := Lib.hid hfe
                  have Hat := Lib.hid hatn
                  have Hcn := Lib.hid hcn
                  clear hno2 hvn hfe ho3 hatn hcn hnx hrf hgq
                  go_wp2_with (first
                    | (at_builtin; refine wpList_append_own_at _ rfl (.tmp 51) (.tmp 53) 23 rfl w.heap.size 3 i0 (.int .i64 0) 1 8 Try.underlying23 hi hz0 hz1 hz2 rfl (by decide) _ (nn + 1 - N) (ints (T.up N (nn + 1 - N))) rfl (HoP.out.alloc _) ⟨w3.heap.size, 0, none⟩ 1 1 [.int .i64 ((nn + 1 : Nat) : Int)] rfl rfl (cell_one_new _ _ _) (ints_oneCell _ [((nn + 1 : Nat) : Int)]) (by unfold maxLen; omega) (by omega) (by simp; omega) ?_; intro v7 w4 ho4 hg4 _ hob4))
                  obtain ⟨g7, c7, rfl⟩ := Joins.ownsRow_form ho4 (by omega)
                  have hg2l := Hat.out.lt (T.enc_ne _)
                  have hb4 : Below w.heap.size w w4 := (Hb3.out.alloc (by omega) _).grown hg4 (by simp; omega) (fun k e => by cases e; exact (HO.out.lt g rfl).1)
                  have hfin : ClRel R N w (.slice (some ⟨g2, 0, none⟩) nr.length c3) (.int .i64 ((nn + 1 : Nat) : Int)) (.slice (some ⟨g7, 0, none⟩) (nn + 1 - N + 1) c7) (.int .i64 ((m + 1 : Nat) : Int)) w4 := by
                    refine ⟨m + 1, nn + 1, tm.step nn, by omega, by omega, by omega, Hvn.out, rfl, rfl, Hnx.out, hb4, g7, c7, ?_, ?_, g2, 0, c3, by rw [Hfe.out], Hcn.out, hcmn, (Hat.out.alloc (T.enc_ne _) _).past hg4 (fun e => by have h8 : g2 = g := Option.some.inj e; omega), ?_⟩
                    · rw [show nn + 1 + 1 - N = nn + 1 - N + 1 by omega]
                    · rw [show nn + 1 + 1 - N = nn + 1 - N + 1 by omega, ← T.up_snoc, show N + (nn + 1 - N) = nn + 1 by omega]
                      simpa [ints] using ho4
                    · rcases hob4 with h9 | h9
                      · have h8 : g7 = g := Option.some.inj h9
                        omega
                      · have h8 : g7 = (w3.alloc (.cells #[.int .i64 ((nn + 1 : Nat) : Int)] 3)).heap.size := Option.some.inj h9
                        rw [World.size_alloc] at h8
                        omega
                  have Hfin := Lib.hid hfin
                  clear hfin hb4 ho4 hg4 hob4
                  go_wp2_with fail
                  go_roundw
                  case rel => have h := Hfin.out; simpa using h
                  case measure => simp [intOf]; omega
              · have ko := Lib.hid (fun w => oneMore1_no nn w hn9 (by omega))
                have HE := Lib.hid (Hrf.out.bad HZ.out (.inr (.inr ⟨HKD.out, by omega⟩)))
                go_wp2_with fail
                refine (kz.out _ HATA.out).mono ?_
                rintro ee wx ⟨rfl, rfl⟩
                go_wp2_with fail
                refine (kg.out _ (Below.refl _ _)).mono ?_
                rintro ee w2 ⟨rfl, hb2⟩
                have Hb2 := Lib.hid hb2
                have hs2 := hb2.size
                have kd2 := Lib.hid (kd.out w2 hb2)
                clear hb2
                go_wp2_with fail
                refine (ko.out w2).mono ?_
                rintro ee wx ⟨rfl, rfl⟩
                go_wp2_with fail
                refine (kd2.out).mono ?_
                rintro ee w3 ⟨a3, c3, rfl, ho3, hb3⟩
                have Hb3 := Lib.hid ((HB.out.trans (Hb2.out.mono hws)).trans (hb3.mono (by omega)))
                have Ho3 := Lib.hid ho3
                have HoP := Lib.hid (ownsRow_below' (ownsRow_below' HO.out Hb2.out) hb3)
                have hs3 := hb3.size
                clear ho3 hb3
                cases hno2 : no with
                | false =>
                  clear hno2
                  go_wp2_with fail
                  go_ret3
                  exact .inl ⟨HE.out, rfl, Hb3.out⟩
                | true =>
                  clear hno2
                  go_wp2_with fail
                  go_ret3
                  exact .inl ⟨HE.out, rfl, Hb3.out⟩
            · simp only [if_neg hkd] at kg
              have HKD := Lib.hid hkd
              clear hkd
              have ko := Lib.hid (fun w => unchanged1_any nn w)
              go_wp2_with fail
              refine (kz.out _ HATA.out).mono ?_
              rintro ee wx ⟨rfl, rfl⟩
              go_wp2_with fail
              refine (kg.out _ (Below.refl _ _)).mono ?_
              rintro ee w2 ⟨rfl, hb2⟩
              have Hb2 := Lib.hid hb2
              have hs2 := hb2.size
              have kd2 := Lib.hid (kd.out w2 hb2)
              clear hb2
              go_wp2_with fail
              refine (ko.out w2).mono ?_
              rintro ee wx ⟨rfl, rfl⟩
              go_wp2_with fail
              refine (kd2.out).mono ?_
              rintro ee w3 ⟨a3, c3, rfl, ho3, hb3⟩
              have Hb3 := Lib.hid ((HB.out.trans (Hb2.out.mono hws)).trans (hb3.mono (by omega)))
              have Ho3 := Lib.hid ho3
              have HoP := Lib.hid (ownsRow_below' (ownsRow_below' HO.out Hb2.out) hb3)
              have hs3 := hb3.size
              clear ho3 hb3
              cases hno2 : no with
              | false =>
                have HE := Lib.hid (Hrf.out.bad HZ.out (.inr (.inl (by rw [← Hno.out, hno2]))))
                clear hno2
                go_wp2_with fail
                go_ret3
                exact .inl ⟨HE.out, rfl, Hb3.out⟩
              | true =>
                have hvn : T.vldB (tm.step nn).enc = true := by rw [← Hno.out, hno2]
                have hfe : nr = (tm.step nn).enc := by rw [Hnr.out, T.fit, if_pos hvn]
                have ho3 := Ho3.out
                rw [hfe] at ho3
                obtain ⟨g2, rfl, hg2, hatn, hcn, hcmn⟩ := own_rowT ho3
                obtain ⟨gq, hgq⟩ : ∃ gq, 3000 - m = gq + 1 := ⟨3000 - m - 1, by omega⟩
                have hrf := Hrf.out
                rw [hgq] at hrf
                have hnx := (hrf.next HZ.out hvn).2 HKD.out
                rw [show gq = 3000 - (m + 1) by omega] at hnx
                have Hnx := Lib.hid hnx
                have Hvn := Lib.hid hvn
                have Hfe := Lib.hid hfe
                have Hat := Lib.hid hatn
                have Hcn := Lib.hid hcn
                clear hno2 hvn hfe ho3 hatn hcn hnx hrf hgq
                have hfin : ClRel R N w (.slice (some ⟨g2, 0, none⟩) nr.length c3) (.int .i64 (nn : Int)) (.slice (some ⟨g, 0, none⟩) (nn + 1 - N) c) (.int .i64 ((m + 1 : Nat) : Int)) w3 :=
                  ⟨m + 1, nn, tm.step nn, by omega, by omega, by omega, Hvn.out, rfl, rfl, Hnx.out, Hb3.out, g, c, rfl, HoP.out, g2, 0, c3, by rw [Hfe.out], Hcn.out, hcmn, Hat.out, by omega⟩
                have Hfin := Lib.hid hfin
                clear hfin
                go_wp2_with fail
                go_roundw
                case rel => have h := Hfin.out; simpa using h
                case measure => simp [intOf]; omega
          · have hlt2 : ¬ (m : Int) < 3000 := by omega
            have HE := Lib.hid (Hrf.out.bad HZ.out (.inl (by omega)))
            go_wp2_with fail
            refine (kz.out _ HATA.out).mono ?_
            rintro ee wx ⟨rfl, rfl⟩
            go_wp2_with fail
            refine (kz.out _ HATA.out).mono ?_
            rintro ee wx ⟨rfl, rfl⟩
            go_wp2_with fail
            go_ret3
            exact .inl ⟨HE.out, rfl, HB.out⟩
    · rw [decide_eq_false hin] at ks
      rw [T.growP_bad (xs := xs) (n := n) (.inr hin)]
      clear h h1 hin _hn0 _hn1
      go_enter Try.func48, Try.ntmps48
      go_wp2_with fail
      refine (k1.out).mono ?_
      rintro ee w1 ⟨rfl, hb1⟩
      have Hb1 := Lib.hid hb1
      clear hb1
      go_wp2_with fail
      refine (ks.out _).mono ?_
      rintro ee w2 ⟨rfl, rfl⟩
      go_wp2_with fail
      go_ret3
      exact .inl ⟨rfl, rfl, Hb1.out⟩
  · have k1 := Lib.hid (impl_valid ao len cap xs w h h1)
    rw [T.growP_bad (xs := xs) (n := n) (.inl h1)]
    clear h h1 _hn0 _hn1
    go_enter Try.func48, Try.ntmps48
    go_wp2_with fail
    refine (k1.out).mono ?_
    rintro ee w1 ⟨rfl, hb1⟩
    have Hb1 := Lib.hid hb1
    clear hb1
    go_wp2_with fail
    go_ret3
    exact .inl ⟨rfl, rfl, Hb1.out⟩

theorem up_last (n k : Nat) (h : 0 < k) : (ints (T.up n k))[k - 1]? = some (.int .i64 ((n + (k - 1) : Nat) : Int)) := by
  simp only [ints, T.up, List.getElem?_map, List.getElem?_range (show k - 1 < k by omega), Option.map_some]

set_option maxHeartbeats 4000000 in
theorem impl_Grow (ao : Option Addr) (len cap : Nat) (xs : List Int) (n : Int) (w : World) (h : Sl w ao len cap xs) (hn0 : -9223372036854775808 ≤ n) (hn1 : n ≤ 9223372036854775807) :
    Calls Try.prog 12 #[.slice ao len cap, .int .i64 n] w fun e w' => e = .returned (.tuple #[.int .i64 (T.growE xs n), .int .i64 (T.growS xs n)]) ∧ Below w.heap.size w w' := by
  have k1 := Lib.hid (climb_any ao len cap xs n w h hn0 hn1)
  unfold T.growE T.growS
  obtain ⟨R, hR⟩ : ∃ R, R = T.growP xs n := ⟨_, rfl⟩
  obtain ⟨N, hN⟩ : ∃ N, N = n.toNat := ⟨_, rfl⟩
  rw [← hR] at k1 ⊢
  rw [← hN] at k1
  clear h hn0 hn1 hR hN
  go_enter Try.func12, Try.ntmps12
  go_wp2_with fail
  refine (k1.out).mono ?_
  rintro ee w1 (⟨rfl, rfl, hb⟩ | ⟨m, s, a, c, rfl, hm1, hm2, rfl, ho, hb⟩)
  · have Hb := Lib.hid hb
    clear hb
    go_wp2_with fail
    go_ret2
    exact ⟨rfl, Hb.out⟩
  · obtain ⟨g, c', hf⟩ := Joins.ownsRow_form ho (by omega)
    simp only [Value.slice.injEq] at hf
    obtain ⟨rfl, _, rfl⟩ := hf
    have z1 : w1.cell? ⟨g, m + 1 - N - 1, none⟩ = some (.int .i64 (m : Int)) := by
      rw [ho.cellAt _ (by omega), up_last _ _ (by omega), show N + (m + 1 - N - 1) = m by omega]
    have Hb := Lib.hid hb
    obtain ⟨k, hk⟩ : ∃ k, k = m + 1 - N := ⟨_, rfl⟩
    rw [← hk] at z1 ⊢
    have hk1 : 1 ≤ k := by omega
    have hk2 : k ≤ 91 := by omega
    clear hb ho hk
    go_wp2_with fail
    go_ret2
    exact ⟨rfl, Hb.out⟩

set_option maxHeartbeats 4000000 in
theorem impl_GrowPath (ao : Option Addr) (len cap : Nat) (xs : List Int) (n : Int) (w : World) (h : Sl w ao len cap xs) (hn0 : -9223372036854775808 ≤ n) (hn1 : n ≤ 9223372036854775807) :
    Calls Try.prog 25 #[.slice ao len cap, .int .i64 n] w (GPost w (T.growRow xs n)) := by
  have k1 := Lib.hid (climb_any ao len cap xs n w h hn0 hn1)
  unfold T.growRow
  obtain ⟨R, hR⟩ : ∃ R, R = T.growP xs n := ⟨_, rfl⟩
  obtain ⟨N, hN⟩ : ∃ N, N = n.toNat := ⟨_, rfl⟩
  rw [← hR] at k1 ⊢
  rw [← hN] at k1 ⊢
  clear h hn0 hn1 hR hN
  go_enter Try.func25, Try.ntmps25
  go_wp2_with fail
  refine (k1.out).mono ?_
  rintro ee w1 (⟨rfl, rfl, hb⟩ | ⟨m, s, a, c, rfl, hm1, hm2, rfl, ho, hb⟩)
  · have Hb := Lib.hid hb
    clear hb
    go_wp2_with fail
    go_ret
    exact ⟨none, 0, rfl, ⟨rfl, .inl ⟨rfl, rfl⟩⟩, Hb.out⟩
  · have Hb := Lib.hid hb
    have Ho := Lib.hid ho
    clear hb ho
    go_wp2_with fail
    go_ret
    refine ⟨a, c, ?_, ?_, Hb.out⟩
    · simp only [T.pathI, T.up_len]; rfl
    · simp only [T.pathI, T.up_len]; exact Ho.out
end Go.Proofs.Ythalogciiochfaa

/- GrowE -/
/- What the laws of chapter 9 say, on rows. -/
namespace Go.Proofs.Ythalogciiochfaa
set_option maxRecDepth 100000
namespace T

theorem grow_cases (xs : List Int) (n : Int) : (growE xs n = -1 ∧ growS xs n = -1 ∧ growRow xs n = []) ∨
    (0 ≤ growE xs n ∧ 1 ≤ n ∧ n ≤ growE xs n ∧ growE xs n ≤ 90 ∧ 0 ≤ growS xs n ∧ growS xs n ≤ 3000 ∧ growRow xs n = up n.toNat ((growE xs n).toNat + 1 - n.toNat)) := by
  cases h : growP xs n with
  | none => left; exact ⟨by rw [growE, h]; rfl, by rw [growS, h]; rfl, by rw [growRow, h]; rfl⟩
  | some p =>
    right
    obtain ⟨_, h1, h2, h3, h4, _⟩ := growP_bnd h
    rw [growE, growS, growRow, h]
    simp only [endI, stairsI, pathI]
    exact ⟨by omega, by omega, by omega, by omega, by omega, by omega, by rw [Int.toNat_natCast]⟩
theorem numRow_bnd (xs : List Int) : -1 ≤ numRow xs ∧ numRow xs ≤ 9999 := by
  cases h : vldB xs with
  | false => rw [numRow_bad h]; omega
  | true => rcases numRow_cases h with ⟨h1, _⟩ | ⟨h1, h2, _⟩ <;> omega
theorem growS_bnd (xs : List Int) (n : Int) : -1 ≤ growS xs n ∧ growS xs n ≤ 3000 := by
  rcases grow_cases xs n with ⟨_, h, _⟩ | ⟨_, _, _, _, h1, h2, _⟩ <;> omega
theorem growE_some {xs : List Int} {n : Int} (h : 0 ≤ growE xs n) : ∃ p : Nat × Nat, growE xs n = p.1 ∧ growS xs n = p.2 ∧ vldB xs = true ∧ 1 ≤ n ∧ Rises (of xs) n.toNat p.1 p.2 := by
  cases h2 : growP xs n with
  | none => rw [growE, h2] at h; exact absurd h (by decide)
  | some p =>
    obtain ⟨h3, h4, _, _, _, h5⟩ := growP_bnd h2
    exact ⟨p, by rw [growE, h2]; rfl, by rw [growS, h2]; rfl, h3, h4, rise_rises h5⟩
theorem growE_num {xs : List Int} {n : Int} (h : 0 ≤ growE xs n) (hn : 0 ≤ numRow xs) : growE xs n = n + numRow xs := by
  obtain ⟨p, h1, _, h3, h4, h5⟩ := growE_some h
  rw [numRow, if_pos h3] at hn ⊢
  rw [h1]
  cases ht : of xs with
  | z =>
    rw [ht] at h5
    have h6 := (h5.unique .z).1
    simp only [num]
    omega
  | c k e r =>
    have hnf := nf_of h3
    rw [ht] at hn h5 hnf
    cases e with
    | c _ _ _ => simp [num] at hn
    | z =>
      have hr : r = z := nf_z hnf rfl
      subst hr
      simp only [num] at hn ⊢
      obtain ⟨K, rfl⟩ : ∃ K : Nat, k = K := ⟨k.toNat, by omega⟩
      have h7 := rises_num K n.toNat
      have hK := hnf.1
      rw [nO, if_neg (by omega)] at h7
      have := (h5.unique h7).1
      omega
theorem growE_add {xs ys : List Int} {n : Int} (ha : addOk xs ys = true) (hn : natOk xs ys = true) (he : addRow xs ys = natRow xs ys) (hp : 0 ≤ growE ys n) (hq : 0 ≤ growE xs (growE ys n)) (hs : 0 ≤ growE (addRow xs ys) n) :
    growE (addRow xs ys) n = growE xs (growE ys n) ∧ growS (addRow xs ys) n = growS ys n + growS xs (growE ys n) := by
  obtain ⟨a1, a2, a3, a4⟩ := addOk_true ha
  obtain ⟨_, _, _, b4⟩ := natOk_true hn
  obtain ⟨p, p1, p2, _, _, pr⟩ := growE_some hp
  obtain ⟨q, q1, q2, _, _, qr⟩ := growE_some hq
  obtain ⟨s, s1, s2, _, _, sr⟩ := growE_some hs
  have hsame : add (of xs) (of ys) = T.nat (of xs) (of ys) := by rw [← a4, ← b4, he]
  have po := nf_pos (nf_of a1)
  have pb := nf_pos (nf_of a2)
  have hge : GeB (of ys) (of xs) := fun m f r hb => by
    rw [hb] at hsame pb
    exact ge_of pb.1 po hsame
  rw [p1, Int.toNat_natCast] at qr
  have hr := Rises.nat pr qr pb po hge
  rw [a4, hsame] at sr
  have := sr.unique hr
  rw [s1, s2, q1, q2, p2]
  omega
theorem up_get (a k j : Nat) (h : j < k) : (up a k).getD j 0 = ((a + j : Nat) : Int) := by
  simp [up, h]
theorem growE_pow {l n : Int} (h : 0 ≤ iterRes l n) (hg : 0 ≤ growE (powRow (num' l)) n) : growE (powRow (num' l)) n = iterRes l n := by
  unfold iterRes at h ⊢
  split at h
  · rename_i hc
    rw [if_pos hc]
    cases hi : iter l.toNat n.toNat with
    | none => rw [hi] at h; exact absurd h (by decide)
    | some m =>
      obtain ⟨p, p1, _, p3, _, pr⟩ := growE_some hg
      obtain ⟨s, sr⟩ := rises_pow l.toNat n.toNat m (by omega) hi
      have hv : vldB (num' l) = true := by
        cases hb : vldB (num' l) with
        | true => rfl
        | false => rw [powRow, if_neg (by rw [hb]; decide)] at p3; exact absurd p3 (by rw [vld_nil]; decide)
      have ho : of (num' l) = nO l.toNat := by
        obtain ⟨L, rfl⟩ : ∃ L : Nat, l = L := ⟨l.toNat, by omega⟩
        rw [Int.toNat_natCast]
        by_cases h0 : L = 0
        · subst h0; exact of_enc z
        · rw [num'_enc (by omega) (by omega), of_enc, nO, if_neg h0]
      have hpo : of (powRow (num' l)) = c 1 (nO l.toNat) z := by
        rw [powRow, if_pos hv, ho] at p3 ⊢
        unfold fit at p3 ⊢
        split
        · rw [of_enc]
        · rename_i h9; rw [if_neg h9, vld_nil] at p3; cases p3
      rw [hpo] at pr
      rw [p1]
      have := (pr.unique sr).1
      simp only [optI]
      omega
  · rw [if_neg (by assumption)] at *
    exact absurd h (by decide)
theorem iterRes_cases (l n : Int) : iterRes l n = -1 ∨ (0 ≤ l ∧ l ≤ 9 ∧ 1 ≤ n ∧ n < iterRes l n ∧ iterRes l n ≤ 90 ∧ (iterRes l (n + 1) = -1 ∨ iterRes l n < iterRes l (n + 1)) ∧ (l = 0 → iterRes l n = n + 1) ∧ (l = 1 → iterRes l n = 2 * n)) := by
  by_cases hc : (0 ≤ l ∧ l ≤ 9) ∧ 1 ≤ n ∧ n ≤ 90
  · cases hi : iter l.toNat n.toNat with
    | none => left; rw [iterRes, if_pos hc, hi]; rfl
    | some m =>
      right
      have hm : iterRes l n = m := by rw [iterRes, if_pos hc, hi]; rfl
      have h1 := iter_bnd l.toNat n.toNat m (by omega) (by omega) hi
      rw [hm]
      refine ⟨hc.1.1, hc.1.2, hc.2.1, by omega, by omega, ?_, ?_, ?_⟩
      · by_cases hc2 : (0 ≤ l ∧ l ≤ 9) ∧ 1 ≤ n + 1 ∧ n + 1 ≤ 90
        · cases hi2 : iter l.toNat (n + 1).toNat with
          | none => left; rw [iterRes, if_pos hc2, hi2]; rfl
          | some m2 =>
            right
            rw [iterRes, if_pos hc2, hi2]
            have := iter_mono l.toNat n.toNat (n + 1).toNat m m2 (by omega) (by omega) hi hi2
            simp only [optI]
            omega
        · left; rw [iterRes, if_neg hc2]
      · rintro rfl
        rw [show (0 : Int).toNat = 0 from rfl] at hi
        simp only [iter] at hi
        split at hi
        · injection hi with hi; omega
        · cases hi
      · rintro rfl
        rw [show (1 : Int).toNat = 1 from rfl] at hi
        have := iter_one _ _ _ hi
        omega
  · left; rw [iterRes, if_neg hc]

end T
end Go.Proofs.Ythalogciiochfaa

/- DrawGw -/
/- What the laws of chapter 9 draw. -/
namespace Go.Proofs.Ythalogciiochfaa
set_option maxRecDepth 100000
open Go.RowKit

/-- A number, as a tree. -/
def T.nT (x : Int) : T := if x = 0 then .z else .c x .z .z
theorem T.nT_nf {x : Int} (h0 : 0 ≤ x) (h1 : x ≤ 9999) : (T.nT x).Nf := by
  unfold T.nT
  split
  · trivial
  · exact ⟨by omega, h1, trivial, trivial, T.ok_z _⟩
theorem T.nT_enc {x : Int} (h0 : 0 ≤ x) (h1 : x ≤ 9999) : T.num' x = (T.nT x).enc := by
  unfold T.nT
  split
  · rename_i h; subst h; rfl
  · exact T.num'_enc (by omega) h1
theorem T.nT_len (x : Int) : (T.nT x).enc.length ≤ 3 := by
  unfold T.nT
  split
  · simp [T.enc, T.body]
  · simp [T.enc, T.body]

def GwPost (w : World) (g : Nat) (e : Ending) (w' : World) : Prop :=
  ∃ (xs : List Int) (v : Int) (g' n c : Nat), n = xs.length ∧ -4 ≤ v ∧ v ≤ 94 ∧ e = .returned (.tuple #[.slice (some ⟨g', 0, none⟩) n c, .int .i64 v]) ∧
    w'.ownsRow w.heap.size 3 1 (.slice (some ⟨g', 0, none⟩) n c) n (ints xs) ∧ n ≤ 200 ∧ w.grownBy w' (some g)

theorem T.nO_nf (n : Int) (k : Int) (h1 : 1 ≤ n) (h2 : n ≤ 9999) (k1 : 1 ≤ k) (k2 : k ≤ 9999) : (T.c n (.c k .z .z) .z).Nf :=
  ⟨h1, h2, ⟨k1, k2, trivial, trivial, T.ok_z _⟩, trivial, T.ok_z _⟩
theorem own_at {w : World} {B c g : Nat} {t : T} {n : Nat} (hn : n = t.enc.length) (h : w.ownsRow B 3 1 (.slice (some ⟨g, 0, none⟩) n c) n (ints t.enc)) : At w g 0 t.enc ∧ n ≤ c ∧ c ≤ maxLen := by
  subst hn
  obtain ⟨g', he, _, h2, h3, h4⟩ := own_rowT h
  simp only [Option.some.injEq, Addr.mk.injEq, and_true] at he
  subst he
  exact ⟨h2, h3, h4⟩

theorem T.wadd_eq {x : Int} (h : x = 0 ∨ x = 1 ∨ x = 2) : T.add (.c 1 (.c 1 .z .z) .z) (T.nT x) = .c 1 (.c 1 .z .z) (T.nT x) := by
  rcases h with rfl | rfl | rfl <;> rfl
theorem T.wadd_nf {x : Int} (h : x = 0 ∨ x = 1 ∨ x = 2) : (T.c 1 (.c 1 .z .z) (T.nT x)).Nf := by
  refine ⟨by decide, by decide, ⟨by decide, by decide, trivial, trivial, T.ok_z _⟩, T.nT_nf (by omega) (by omega), ?_⟩
  rcases h with rfl | rfl | rfl
  · exact T.ok_z _
  · exact T.ok_c.2 rfl
  · exact T.ok_c.2 rfl

theorem grown_of_below {w w' : World} (h : Below w.heap.size w w') : w.grownBy w' none := ⟨h.os, h.tape, h.output, h.size, fun k hk _ => h.block k hk⟩

set_option maxHeartbeats 4000000 in
theorem l20Grown_any (g : Nat) (w : World) (hrd : RdOk w g 0) :
    Calls Try.prog 46 #[.pointer (some ⟨g, 0, none⟩)] w (GwPost w g) := by
  have hgl : g < w.heap.size := by obtain ⟨_, _, _, _, h1, _⟩ := hrd; exact (Array.getElem?_eq_some_iff.1 h1).1
  have k1 := Lib.hid (pick_any g 0 4 w (by omega) (by decide) (by decide) hrd)
  clear hrd
  go_enter Try.func46, Try.ntmps46
  go_wp2_with fail
  refine (k1.out).mono ?_
  rintro ee w1 ⟨x1, rfl, hx1, hr1, hg1⟩
  have hx10 := hx1.1
  have hx11 := hx1.2.1 (by decide)
  have Hg1 := Lib.hid hg1
  have k2 := Lib.hid (pick_any g 1 30 w1 (by omega) (by decide) (by decide) hr1)
  clear hx1 hr1 hg1
  go_wp2_with fail
  refine (k2.out).mono ?_
  rintro ee w2 ⟨x2, rfl, hx2, hr2, hg2⟩
  have hx20 := hx2.1
  have hx21 := hx2.2.1 (by decide)
  have Hg2 := Lib.hid (grownBy_trans Hg1.out hg2)
  have k3 := Lib.hid (pick_any g 2 30 w2 (by omega) (by decide) (by decide) hr2)
  have hd0 : 0 ≤ x2 / 29 := by omega
  have hd1 : x2 / 29 ≤ 1 := by omega
  have q2 : x2.tdiv 29 = x2 / 29 := Int.tdiv_eq_ediv_of_nonneg hx20
  clear hx2 hr2 hg2
  go_wp2_with fail
  refine (k3.out).mono ?_
  rintro ee w3 ⟨x3, rfl, hx3, hr3, hg3⟩
  have hx30 := hx3.1
  have hx31 := hx3.2.1 (by decide)
  have Hg3 := Lib.hid (grownBy_trans Hg2.out hg3)
  have k4 := Lib.hid (pick_any g 3 4 w3 (by omega) (by decide) (by decide) hr3)
  have hd2 : 0 ≤ x3 / 29 := by omega
  have hd3 : x3 / 29 ≤ 1 := by omega
  have q3 : x3.tdiv 29 = x3 / 29 := Int.tdiv_eq_ediv_of_nonneg hx30
  clear hx3 hr3 hg3
  go_wp2_with fail
  refine (k4.out).mono ?_
  rintro ee w4 ⟨x4, rfl, hx4, hr4, hg4⟩
  have hx40 := hx4.1
  have hx41 := hx4.2.1 (by decide)
  have Hg4 := Lib.hid (grownBy_trans Hg3.out hg4)
  have Hr4 := Lib.hid hr4
  have hs4 : w.heap.size ≤ w4.heap.size := Hg4.out.size
  have hcs : x4 = 0 ∨ x4 = 1 ∨ x4 = 2 ∨ x4 = 3 := by omega
  clear hx4 hr4 hg4
  obtain ⟨V, hV⟩ : ∃ V, V = 1 + x1 + x2 / 29 * 90 - x3 / 29 * 5 := ⟨_, rfl⟩
  have hV0 : -4 ≤ V := by omega
  have hV1 : V ≤ 94 := by omega
  have HV := Lib.hid hV
  clear hV
  rcases hcs with rfl | rfl | rfl | rfl
  · have k5 := Lib.hid (l20Little_any g 4 9 w4 (by omega) (by decide) (by decide) Hr4.out)
    go_wp2_with fail
    refine (k5.out).mono ?_
    rintro ee w5 ⟨xs, g', n, c, hn, rfl, ho, hl, _, hg5⟩
    have Ho := Lib.hid (Joins.ownsRow_le ho hs4)
    have Hg5 := Lib.hid (grownBy_trans Hg4.out hg5)
    have Hn := Lib.hid hn
    clear ho hg5 hn
    go_wp2_with fail
    go_ret2
    exact ⟨xs, V, g', n, c, Hn.out, hV0, hV1, by first | rfl | (rw [HV.out]; rfl), Ho.out, hl, Hg5.out⟩
  · have k5 := Lib.hid (pick_any g 4 2 w4 (by omega) (by decide) (by decide) Hr4.out)
    go_wp2_with fail
    refine (k5.out).mono ?_
    rintro ee w5 ⟨x5, rfl, hx5, hr5, hg5⟩
    have hx50 := hx5.1
    have hx51 := hx5.2.1 (by decide)
    have hg5' := grownBy_trans Hg4.out hg5
    obtain ⟨WA, hWA⟩ : ∃ W, W = w5.alloc (.cells #[.int .i64 1, .int .i64 (1 + x5), .int .i64 1, .int .i64 1, .int .i64 0] 3) := ⟨_, rfl⟩
    have Hgs5 := Lib.hid hg5'.size
    have HgA := Lib.hid (show w.grownBy WA (some g) by rw [hWA]; exact grownBy_step hg5' (World.grownBy_alloc w5 _ none) (fun k e => by cases e))
    have HrA := Lib.hid (show RdOk WA g 5 by rw [hWA]; exact hr5.kept (World.grownBy_alloc w5 _ none) (fun k hk => by cases hk))
    have HoA := Lib.hid (show WA.ownsRow w.heap.size 3 1 (.slice (some ⟨w5.heap.size, 0, none⟩) 5 5) 5 (ints (T.c (1 + x5) (.c 1 .z .z) .z).enc) by rw [hWA]; exact World.ownsRow_lit w5 _ 5 hg5'.size (by simp [maxLen]) rfl)
    have HWA := Lib.hid hWA
    have hWAs : WA.heap.size = w5.heap.size + 1 := by rw [hWA]; simp
    have k6 := Lib.hid (pick_any g 5 4 WA (by omega) (by decide) (by decide) HrA.out)
    obtain ⟨bA, hbA⟩ : ∃ b, b = w5.heap.size := ⟨_, rfl⟩
    have HbA := Lib.hid hbA
    clear hx5 hr5 hg5 hg5' hWA
    go_wp2_with fail
    rw [← HWA.out, ← HbA.out]
    refine (k6.out).mono ?_
    rintro ee w6 ⟨x6, rfl, hx6, hr6, hg6⟩
    have hx60 := hx6.1
    have hx61 := hx6.2.1 (by decide)
    have Hg6 := Lib.hid (grownBy_trans HgA.out hg6)
    rw [← hbA] at HoA
    have Ho6 := Lib.hid (own_rd HoA.out hg6 hgl)
    have k7 := Lib.hid (spec_OrdOf x6 w6 (by omega) (by omega))
    rw [T.nT_enc hx60 (by omega)] at k7
    have hl := T.nT_len x6
    have hne := T.enc_ne (T.nT x6)
    have hlp : 0 < (T.nT x6).enc.length := List.length_pos_iff.2 hne
    have Hnf := Lib.hid (T.nT_nf hx60 (show x6 ≤ 9999 by omega))
    obtain ⟨t6, ht6⟩ : ∃ t, t = T.nT x6 := ⟨_, rfl⟩
    rw [← ht6] at k7 hl hlp Hnf
    obtain ⟨n6, hn6⟩ : ∃ n, n = t6.enc.length := ⟨_, rfl⟩
    rw [← hn6] at k7 hl hlp
    have Hn6 := Lib.hid hn6
    have hs6 : w.heap.size ≤ w6.heap.size := Hg6.out.size
    clear hx6 hr6 hg6 hne ht6 hn6 hbA hWAs
    go_wp2_with fail
    refine (k7.out).mono ?_
    rintro ee w7 ⟨ao, c7, rfl, ho, hb7⟩
    obtain ⟨g7, c', hf⟩ := Joins.ownsRow_form ho hlp
    simp only [Value.slice.injEq] at hf
    obtain ⟨rfl, _, rfl⟩ := hf
    have Hg7 := Lib.hid (grownBy_step Hg6.out (grown_of_below hb7) (fun k e => by cases e))
    obtain ⟨q1, q2, q3⟩ := own_at Hn6.out ho
    obtain ⟨r1, r2, r3⟩ := own_at (t := T.c (1 + x5) (.c 1 .z .z) .z) rfl (ownsRow_below' Ho6.out hb7)
    have k8 := Lib.hid (l2Add_any bA 0 5 5 g7 0 n6 c7 (T.c (1 + x5) (.c 1 .z .z) .z) t6 w7 (T.nO_nf _ _ (by omega) (by omega) (by decide) (by decide)) Hnf.out rfl Hn6.out (by decide) (by omega) (by decide) (by decide) q2 q3 r1 q1)
    have hal := T.add_len (T.c (1 + x5) (.c 1 .z .z) .z) t6
    rw [show (T.c (1 + x5) (.c 1 .z .z) .z).enc.length = 5 from rfl, ← Hn6.out] at hal
    obtain ⟨xs, hxs⟩ : ∃ xs, xs = (T.add (T.c (1 + x5) (.c 1 .z .z) .z) t6).enc := ⟨_, rfl⟩
    have hne := T.enc_ne (T.add (T.c (1 + x5) (.c 1 .z .z) .z) t6)
    unfold IntPost at k8
    rw [← hxs] at k8 hal hne
    have hlp2 : 0 < xs.length := List.length_pos_iff.2 hne
    have hs7 : w.heap.size ≤ w7.heap.size := Hg7.out.size
    clear ho hb7 q1 r1 hxs hne
    go_wp2_with fail
    refine (k8.out).mono ?_
    rintro ee w8 ⟨ao, c8, rfl, ho, hb8⟩
    obtain ⟨g8, c', hf⟩ := Joins.ownsRow_form ho hlp2
    simp only [Value.slice.injEq] at hf
    obtain ⟨rfl, _, rfl⟩ := hf
    have Ho := Lib.hid (Joins.ownsRow_le (base' := w.heap.size) ho hs7)
    have Hg8 := Lib.hid (grownBy_step Hg7.out (grown_of_below hb8) (fun k e => by cases e))
    clear ho hb8
    go_wp2_with fail
    go_ret2
    exact ⟨xs, V, g8, xs.length, c8, rfl, hV0, hV1, by first | rfl | (rw [HV.out]; rfl), Ho.out, by omega, Hg8.out⟩
  · have hg4' := Hg4.out
    have hr4' := Hr4.out
    obtain ⟨WA, hWA⟩ : ∃ W, W = (w4.alloc (.cells #[.int .i64 1, .int .i64 1, .int .i64 1, .int .i64 2, .int .i64 0] 3)).alloc (.cells #[.int .i64 1, .int .i64 1, .int .i64 1, .int .i64 1, .int .i64 0] 3) := ⟨_, rfl⟩
    have HgA := Lib.hid (show w.grownBy WA (some g) by rw [hWA]; exact grownBy_step (grownBy_step hg4' (World.grownBy_alloc w4 _ none) (fun k e => by cases e)) (World.grownBy_alloc _ _ none) (fun k e => by cases e))
    have HrA := Lib.hid (show RdOk WA g 4 by rw [hWA]; exact (hr4'.kept (World.grownBy_alloc w4 _ none) (fun k hk => by cases hk)).kept (World.grownBy_alloc _ _ none) (fun k hk => by cases hk))
    have HoA := Lib.hid (show WA.ownsRow w.heap.size 3 1 (.slice (some ⟨w4.heap.size, 0, none⟩) 5 5) 5 (ints (T.c 1 (.c 2 .z .z) .z).enc) by rw [hWA]; exact (World.ownsRow_lit w4 _ 5 hs4 (by simp [maxLen]) rfl).alloc _)
    have HoB := Lib.hid (show WA.ownsRow w.heap.size 3 1 (.slice (some ⟨w4.heap.size + 1, 0, none⟩) 5 5) 5 (ints (T.c 1 (.c 1 .z .z) .z).enc) by
      rw [hWA]
      have h9 := World.ownsRow_lit (base := w.heap.size) (e := 3) (size := 1) (w4.alloc (.cells #[.int .i64 1, .int .i64 1, .int .i64 1, .int .i64 2, .int .i64 0] 3)) #[.int .i64 1, .int .i64 1, .int .i64 1, .int .i64 1, .int .i64 0] 5 (by simp; omega) (by simp [maxLen]) rfl
      rw [World.size_alloc] at h9
      exact h9)
    have HWA := Lib.hid hWA
    have k6 := Lib.hid (pick_any g 4 3 WA (by omega) (by decide) (by decide) HrA.out)
    obtain ⟨bA, hbA⟩ : ∃ b, b = w4.heap.size := ⟨_, rfl⟩
    have HbA := Lib.hid hbA
    rw [← hbA] at HoA HoB
    clear hg4' hr4' hWA hbA
    go_wp2_with fail
    rw [← HWA.out, ← HbA.out]
    refine (k6.out).mono ?_
    rintro ee w6 ⟨x6, rfl, hx6, hr6, hg6⟩
    have hx60 := hx6.1
    have hx61 := hx6.2.1 (by decide)
    have hx6c : x6 = 0 ∨ x6 = 1 ∨ x6 = 2 := by omega
    have Hg6 := Lib.hid (grownBy_trans HgA.out hg6)
    have Ho6 := Lib.hid (own_rd HoA.out hg6 hgl)
    have Hp6 := Lib.hid (own_rd HoB.out hg6 hgl)
    have k7 := Lib.hid (spec_OrdOf x6 w6 (by omega) (by omega))
    rw [T.nT_enc hx60 (by omega)] at k7
    have hl := T.nT_len x6
    have hne := T.enc_ne (T.nT x6)
    have hlp : 0 < (T.nT x6).enc.length := List.length_pos_iff.2 hne
    have Hnf := Lib.hid (T.nT_nf hx60 (show x6 ≤ 9999 by omega))
    have Hae := Lib.hid (T.wadd_eq hx6c)
    have Han := Lib.hid (T.wadd_nf hx6c)
    obtain ⟨t6, ht6⟩ : ∃ t, t = T.nT x6 := ⟨_, rfl⟩
    rw [← ht6] at k7 hl hlp Hnf Hae Han
    obtain ⟨n6, hn6⟩ : ∃ n, n = t6.enc.length := ⟨_, rfl⟩
    rw [← hn6] at k7 hl hlp
    have Hn6 := Lib.hid hn6
    have hs6 : w.heap.size ≤ w6.heap.size := Hg6.out.size
    clear hx6 hr6 hg6 hne ht6 hn6 hx6c
    go_wp2_with fail
    refine (k7.out).mono ?_
    rintro ee w7 ⟨ao, c7, rfl, ho, hb7⟩
    obtain ⟨g7, c', hf⟩ := Joins.ownsRow_form ho hlp
    simp only [Value.slice.injEq] at hf
    obtain ⟨rfl, _, rfl⟩ := hf
    have Hg7 := Lib.hid (grownBy_step Hg6.out (grown_of_below hb7) (fun k e => by cases e))
    obtain ⟨q1, q2, q3⟩ := own_at Hn6.out ho
    obtain ⟨r1, r2, r3⟩ := own_at (t := T.c 1 (.c 1 .z .z) .z) rfl (ownsRow_below' Hp6.out hb7)
    have Ho7 := Lib.hid (ownsRow_below' Ho6.out hb7)
    have k8 := Lib.hid (l2Add_any (bA + 1) 0 5 5 g7 0 n6 c7 (T.c 1 (.c 1 .z .z) .z) t6 w7 (T.nO_nf _ _ (by omega) (by omega) (by decide) (by decide)) Hnf.out rfl Hn6.out (by decide) (by omega) (by decide) (by decide) q2 q3 r1 q1)
    have hal := T.add_len (T.c 1 (.c 1 .z .z) .z) t6
    rw [show (T.c 1 (.c 1 .z .z) .z).enc.length = 5 from rfl, ← Hn6.out, Hae.out] at hal
    rw [Hae.out] at k8
    have hne := T.enc_ne (T.c 1 (.c 1 .z .z) t6)
    have hlp2 := List.length_pos_iff.2 hne
    obtain ⟨n8, hn8⟩ : ∃ n, n = (T.c 1 (.c 1 .z .z) t6).enc.length := ⟨_, rfl⟩
    unfold IntPost at k8
    rw [← hn8] at k8 hal hlp2
    have Hn8 := Lib.hid hn8
    have hs7 : w.heap.size ≤ w7.heap.size := Hg7.out.size
    clear ho hb7 q1 r1 hne hn8
    go_wp2_with fail
    refine (k8.out).mono ?_
    rintro ee w8 ⟨ao, c8, rfl, ho, hb8⟩
    obtain ⟨g8, c', hf⟩ := Joins.ownsRow_form ho hlp2
    simp only [Value.slice.injEq] at hf
    obtain ⟨rfl, _, rfl⟩ := hf
    have Hg8 := Lib.hid (grownBy_step Hg7.out (grown_of_below hb8) (fun k e => by cases e))
    obtain ⟨q1, q2, q3⟩ := own_at Hn8.out ho
    obtain ⟨r1, r2, r3⟩ := own_at (t := T.c 1 (.c 2 .z .z) .z) rfl (ownsRow_below' Ho7.out hb8)
    have k9 := Lib.hid (l2Add_any bA 0 5 5 g8 0 n8 c8 (T.c 1 (.c 2 .z .z) .z) (T.c 1 (.c 1 .z .z) t6) w8 (T.nO_nf _ _ (by omega) (by omega) (by decide) (by decide)) Han.out rfl Hn8.out (by decide) (by omega) (by decide) (by decide) q2 q3 r1 q1)
    have hal2 := T.add_len (T.c 1 (.c 2 .z .z) .z) (T.c 1 (.c 1 .z .z) t6)
    rw [show (T.c 1 (.c 2 .z .z) .z).enc.length = 5 from rfl, ← Hn8.out] at hal2
    have hne := T.enc_ne (T.add (T.c 1 (.c 2 .z .z) .z) (T.c 1 (.c 1 .z .z) t6))
    obtain ⟨xs, hxs⟩ : ∃ xs, xs = (T.add (T.c 1 (.c 2 .z .z) .z) (T.c 1 (.c 1 .z .z) t6)).enc := ⟨_, rfl⟩
    unfold IntPost at k9
    rw [← hxs] at k9 hal2 hne
    have hlp3 : 0 < xs.length := List.length_pos_iff.2 hne
    have hs8 : w.heap.size ≤ w8.heap.size := Hg8.out.size
    clear ho hb8 q1 r1 hxs hne
    go_wp2_with fail
    refine (k9.out).mono ?_
    rintro ee w9 ⟨ao, c9, rfl, ho, hb9⟩
    obtain ⟨g9, c', hf⟩ := Joins.ownsRow_form ho hlp3
    simp only [Value.slice.injEq] at hf
    obtain ⟨rfl, _, rfl⟩ := hf
    have Ho := Lib.hid (Joins.ownsRow_le (base' := w.heap.size) ho hs8)
    have Hg9 := Lib.hid (grownBy_step Hg8.out (grown_of_below hb9) (fun k e => by cases e))
    clear ho hb9
    go_wp2_with fail
    go_ret2
    exact ⟨xs, V, g9, xs.length, c9, rfl, hV0, hV1, by first | rfl | (rw [HV.out]; rfl), Ho.out, by omega, Hg9.out⟩
  · have k5 := Lib.hid (pick_any g 4 20 w4 (by omega) (by decide) (by decide) Hr4.out)
    go_wp2_with fail
    refine (k5.out).mono ?_
    rintro ee w5 ⟨x5, rfl, hx5, hr5, hg5⟩
    have hx50 := hx5.1
    have hx51 := hx5.2.1 (by decide)
    have Hg5 := Lib.hid (grownBy_trans Hg4.out hg5)
    have k6 := Lib.hid (spec_OrdOf x5 w5 (by omega) (by omega))
    rw [T.nT_enc hx50 (by omega)] at k6
    have hl := T.nT_len x5
    have hne := T.enc_ne (T.nT x5)
    obtain ⟨xs, hxs⟩ : ∃ xs, xs = (T.nT x5).enc := ⟨_, rfl⟩
    rw [← hxs] at k6 hl hne
    have hlp : 0 < xs.length := List.length_pos_iff.2 hne
    clear hx5 hr5 hg5 hxs hne
    go_wp2_with fail
    refine (k6.out).mono ?_
    rintro ee w6 ⟨ao, c, rfl, ho, hb6⟩
    obtain ⟨g', c', hf⟩ := Joins.ownsRow_form ho hlp
    simp only [Value.slice.injEq] at hf
    obtain ⟨rfl, _, rfl⟩ := hf
    have Ho := Lib.hid (Joins.ownsRow_le (base' := w.heap.size) ho Hg5.out.size)
    have Hg6 := Lib.hid (grownBy_step Hg5.out (grown_of_below hb6) (fun k e => by cases e))
    clear ho hb6
    go_wp2_with fail
    go_ret2
    exact ⟨xs, V, g', xs.length, c, rfl, hV0, hV1, by first | rfl | (rw [HV.out]; rfl), Ho.out, by omega, Hg6.out⟩
def DrawNumG (w : World) (e : Ending) (w' : World) : Prop :=
  ∃ (xs : List Int) (v : Int) (g n c : Nat), n = xs.length ∧ -4 ≤ v ∧ v ≤ 94 ∧ e = .returned (.tuple #[.slice (some ⟨g, 0, none⟩) n c, .int .i64 v]) ∧
    w'.ownsRow w.heap.size 3 1 (.slice (some ⟨g, 0, none⟩) n c) n (ints xs) ∧ n ≤ 200 ∧ Below w.heap.size w w'
set_option maxHeartbeats 2000000 in
theorem drawGrow_any (a : Option Addr) (len cap : Nat) (w : World) (h : By w a len cap) : Calls Try.prog 11 #[.slice a len cap] w (DrawNumG w) := by
  have k0 := Lib.hid (open_any a len cap w h)
  obtain ⟨g, hg⟩ : ∃ g, g = w.heap.size := ⟨_, rfl⟩
  rw [← hg] at k0
  have Hg := Lib.hid hg
  clear hg h
  go_enter Try.func11, Try.ntmps11
  go_wp2_with fail
  refine (k0.out).mono ?_
  rintro ee w1 ⟨rfl, hr1, hb1⟩
  have Hb1 := Lib.hid hb1
  have k1 := Lib.hid (l20Grown_any g w1 hr1)
  clear hb1 hr1
  go_wp2_with fail
  refine (k1.out).mono ?_
  rintro ee w2 ⟨xs, v, g1, n, c, hn, hv0, hv1, rfl, ho, hl, hg2⟩
  have Hn := Lib.hid hn
  have Ho2 := Lib.hid ho
  have Hg2 := Lib.hid hg2
  clear hn ho hg2
  go_wp2_with fail
  go_ret2
  have hs1 : g ≤ w1.heap.size := by have := Hb1.out.size; have := Hg.out; omega
  have hs2 : w.heap.size ≤ w1.heap.size := Hb1.out.size
  exact ⟨xs, v, g1, n, c, Hn.out, hv0, hv1, rfl, Joins.ownsRow_le Ho2.out hs2, hl, by rw [← Hg.out]; exact Hb1.out.grown Hg2.out hs1 (fun k e => by cases e; exact Nat.le_refl _)⟩
set_option maxHeartbeats 2000000 in
theorem drawGrowPath_any (a : Option Addr) (len cap : Nat) (w : World) (h : By w a len cap) : Calls Try.prog 24 #[.slice a len cap] w (DrawNumG w) := by
  have k0 := Lib.hid (open_any a len cap w h)
  obtain ⟨g, hg⟩ : ∃ g, g = w.heap.size := ⟨_, rfl⟩
  rw [← hg] at k0
  have Hg := Lib.hid hg
  clear hg h
  go_enter Try.func24, Try.ntmps24
  go_wp2_with fail
  refine (k0.out).mono ?_
  rintro ee w1 ⟨rfl, hr1, hb1⟩
  have Hb1 := Lib.hid hb1
  have k1 := Lib.hid (l20Grown_any g w1 hr1)
  clear hb1 hr1
  go_wp2_with fail
  refine (k1.out).mono ?_
  rintro ee w2 ⟨xs, v, g1, n, c, hn, hv0, hv1, rfl, ho, hl, hg2⟩
  have Hn := Lib.hid hn
  have Ho2 := Lib.hid ho
  have Hg2 := Lib.hid hg2
  clear hn ho hg2
  go_wp2_with fail
  go_ret2
  have hs1 : g ≤ w1.heap.size := by have := Hb1.out.size; have := Hg.out; omega
  have hs2 : w.heap.size ≤ w1.heap.size := Hb1.out.size
  exact ⟨xs, v, g1, n, c, Hn.out, hv0, hv1, rfl, Joins.ownsRow_le Ho2.out hs2, hl, by rw [← Hg.out]; exact Hb1.out.grown Hg2.out hs1 (fun k e => by cases e; exact Nat.le_refl _)⟩
end Go.Proofs.Ythalogciiochfaa

/- LFnGrowPath -/
/- FnGrowPath: the walk of the law. -/
namespace Go.Proofs.Ythalogciiochfaa
set_option maxRecDepth 100000
open Go.RowKit

set_option maxHeartbeats 4000000 in
theorem fnGrowPath_walk (a : Option Addr) (len cap : Nat) (w : World) (h : By w a len cap) :
    Calls Try.prog 5 #[.slice a len cap] w fun e w' => e = .returned (.bool true) ∧ Below w.heap.size w w' := by
  have hlm : len ≤ 9223372036854775807 := by have := h.1; have := h.2.1; unfold maxLen at this; omega
  by_cases hbig : 1048576 < len
  · clear h
    go_enter Try.func5, Try.ntmps5
    go_wp2_with fail
    go_ret
    exact ⟨rfl, Below.refl _ _⟩
  have k0 := Lib.hid (drawGrowPath_any a len cap w h)
  clear h
  go_enter Try.func5, Try.ntmps5
  go_wp2_with fail
  refine (k0.out).mono ?_
  rintro ee w1 ⟨xs, V, g, n, c, hn, hV0, hV1, rfl, ho, hl, hb0⟩
  have Hn := Lib.hid hn
  clear hn
  have X_0 := Lib.hid (Sl.of_own ho)
  have Ht0 := Lib.hid hb0
  have hws := hb0.size
  clear ho hb0
  have hcs := T.grow_cases xs V
  obtain ⟨r, hr⟩ : ∃ r, r = T.growRow xs V := ⟨_, rfl⟩
  have hrl : r.length ≤ 90 := by rw [hr]; exact T.growRow_len xs V
  obtain ⟨e, he⟩ : ∃ e, e = T.growE xs V := ⟨_, rfl⟩
  rw [← hr, ← he] at hcs
  have Hr := Lib.hid hr
  have He := Lib.hid he
  clear hr he
  have k1 := Lib.hid (impl_GrowPath (some ⟨g, 0, none⟩) n c xs V w1 X_0.out (by omega) (by omega))
  unfold GPost at k1
  rw [← Hr.out] at k1
  go_wp2_with fail
  refine (k1.out).mono ?_
  rintro ee w101 ⟨aG, cG, rfl, ho, hb1⟩
  have Ht1 := Lib.hid (Ht0.out.trans (hb1.mono (by have h1 := Ht0.out.size; omega)))
  have X_1 := Lib.hid (X_0.out.below hb1)
  have G_1 := Lib.hid (Sl.of_own ho)
  clear hb1 ho
  have k2 := Lib.hid (spec_GrowPath (some ⟨g, 0, none⟩) n c xs V w101 X_1.out (by omega) (by omega))
  unfold GPost at k2
  rw [← Hr.out] at k2
  go_wp2_with fail
  refine (k2.out).mono ?_
  rintro ee w102 ⟨aM, cM, rfl, ho, hb2⟩
  have Ht2 := Lib.hid (Ht1.out.trans (hb2.mono (by have h1 := Ht1.out.size; omega)))
  have X_2 := Lib.hid (X_1.out.below hb2)
  have G_2 := Lib.hid (G_1.out.below hb2)
  have M_2 := Lib.hid (Sl.of_own ho)
  clear hb2 ho
  have k3 := Lib.hid (sameInts_any aG aM r.length cG r.length cM r r w102 (by omega) G_2.out M_2.out)
  rw [eqB_refl] at k3
  go_wp2_with fail
  refine (k3.out).mono ?_
  rintro ee w103 ⟨rfl, hb3⟩
  have Ht3 := Lib.hid (Ht2.out.trans (hb3.mono (by have h1 := Ht2.out.size; omega)))
  have X_3 := Lib.hid (X_2.out.below hb3)
  have G_3 := Lib.hid (G_2.out.below hb3)
  have M_3 := Lib.hid (M_2.out.below hb3)
  clear hb3
  have k4 := Lib.hid (impl_Grow (some ⟨g, 0, none⟩) n c xs V w103 X_3.out (by omega) (by omega))
  rw [← He.out] at k4
  go_wp2_with fail
  refine (k4.out).mono ?_
  rintro ee w104 ⟨rfl, hb4⟩
  have Ht4 := Lib.hid (Ht3.out.trans (hb4.mono (by have h1 := Ht3.out.size; omega)))
  have X_4 := Lib.hid (X_3.out.below hb4)
  have G_4 := Lib.hid (G_3.out.below hb4)
  have M_4 := Lib.hid (M_3.out.below hb4)
  clear hb4
  rcases hcs with ⟨rfl, _, rfl⟩ | ⟨he0, hv1, hve, he9, _, _, hru⟩
  · skip
    have k5 := Lib.hid (alive_any w104)
    go_wp2_with fail
    refine (k5.out).mono ?_
    rintro ee w105 ⟨rfl, hb5⟩
    have Ht5 := Lib.hid (Ht4.out.trans (hb5.mono (by have h1 := Ht4.out.size; omega)))
    have X_5 := Lib.hid (X_4.out.below hb5)
    have G_5 := Lib.hid (G_4.out.below hb5)
    have M_5 := Lib.hid (M_4.out.below hb5)
    clear hb5
    go_wp2_with fail
    go_ret
    exact ⟨rfl, Ht5.out⟩
  · have hk : r.length = e.toNat + 1 - V.toNat := by rw [hru, T.up_len]
    have hget : ∀ i, i < r.length → r.getD i 0 = V + (i : Int) := by
      intro i hi
      rw [hk] at hi
      rw [hru, T.up_get _ _ _ hi]
      omega
    obtain ⟨bb, off, hae, hat⟩ := G_4.out.2.2.2 (by omega)
    subst hae
    have HAT := Lib.hid hat
    have HG := Lib.hid hget
    have hcap : r.length ≤ cG := G_4.out.2.1
    obtain ⟨k, hke⟩ : ∃ k, k = r.length := ⟨_, rfl⟩
    have Hke := Lib.hid hke
    rw [← hke] at hcap hrl hk ⊢
    have hen : ¬ e < 0 := by omega
    have hkv : ((k : Int) == e - V + 1) = true := by
      have : (k : Int) = e - V + 1 := by omega
      simp [this]
    clear hat hget hru hke hk
    go_wp2_with fail
    obtain ⟨W, hW⟩ : ∃ W, W = w104 := ⟨_, rfl⟩
    have HW := Lib.hid hW
    rw [← hW] at HAT ⊢
    clear hW
    go_loopw [8] (fun v8 wr => ∃ i : Nat, v8 = .int .i64 i ∧ i ≤ k ∧ W = wr) (fun v8 _ => k - (intOf v8).toNat)
    case atStart => exact ⟨0, rfl, Nat.zero_le _, rfl⟩
    case round =>
      obtain ⟨i, rfl, hi, rfl⟩ := hrel
      by_cases hin : i < k
      · have hin2 : (i : Int) < k := by omega
        have y0 : W.cell? ⟨bb, off + i, none⟩ = some (.int .i64 (V + (i : Int))) := by
          rw [HAT.out i (by rw [← Hke.out]; exact hin), HG.out i (by rw [← Hke.out]; exact hin)]
        have hne : (V + (i : Int) != V + (i : Int)) = false := by simp
        go_wp2_with fail
        go_roundw
        case rel => exact ⟨i + 1, by simp, by omega, trivial⟩
        case measure => simp [intOf]; omega
      · have hin2 : ¬ (i : Int) < k := by omega
        go_wp2_with fail
        go_ret
        exact ⟨rfl, by rw [HW.out]; exact Ht4.out⟩

end Go.Proofs.Ythalogciiochfaa
