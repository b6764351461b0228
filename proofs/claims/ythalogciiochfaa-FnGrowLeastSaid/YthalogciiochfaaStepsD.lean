/- Steps down until 0, on trees: how many there are, and how they add up. -/
import Derived.Test.YthalogciiochfaaStepsM
namespace Go.Proofs.Ythalogciiochfaa
set_option maxRecDepth 100000
namespace T

/-- So many steps lead to 0. -/
inductive Runs (k : Int) : T → Nat → Prop
  | z : Runs k z 0
  | s {t : T} {n : Nat} : t ≠ z → Runs k (t.step k) n → Runs k t (n + 1)

theorem Runs.unique {k : Int} {t : T} {n m : Nat} (h : Runs k t n) (h' : Runs k t m) : n = m := by
  induction h generalizing m with
  | z =>
    cases h' with
    | z => rfl
    | s h1 _ => exact absurd rfl h1
  | s h1 _ ih =>
    cases h' with
    | z => exact absurd rfl h1
    | s _ h2 => rw [ih h2]

/-- Every exponent is greater than this one, but the last one may be the same. -/
def Ge (f : T) : T → Prop
  | z => True
  | c _ e q => (f.cmp e = -1 ∧ Ge f q) ∨ (f = e ∧ q = z)
theorem ge_less {f g : T} (h : g.cmp f = -1) : ∀ {o : T}, Ge f o → Ge g o
  | z, _ => trivial
  | c n e q, h' => by
    rcases h' with ⟨h1, h2⟩ | ⟨rfl, rfl⟩
    · exact .inl ⟨cmp_trans h h1, ge_less h h2⟩
    · exact .inl ⟨h, trivial⟩
def GeB (b o : T) : Prop := ∀ m f r, b = c m f r → Ge f o

theorem nat_zero {s r : T} (hs : s.Pos) (h : nat s r = r) : s = z := by
  cases s with
  | z => rfl
  | c n e q =>
    have h1 := nat_self (s := r) (g := e) (p := q) hs.1
    rw [nat_comm, h, cmp_refl] at h1
    omega
theorem nat_ne {q : T} {m : Int} {f r : T} (hm : 1 ≤ m) : nat q (c m f r) ≠ z := by
  intro h
  have h1 := nat_self (s := q) (g := f) (p := r) hm
  rw [h] at h1
  cases q <;> simp [cmp] at h1

/-- Where the sum and the natural sum are the same, the second one's terms come behind. -/
theorem ge_of {m : Int} {f r : T} (hm : 1 ≤ m) : ∀ {o : T}, o.Pos → add o (c m f r) = nat o (c m f r) → Ge f o
  | z, _, _ => trivial
  | c n e q, ho, h => by
    rcases cmp_vals e f with h1 | h1 | h1
    · rw [add_lt n m q r h1, nat_lt n m q r h1] at h
      injection h with _ _ h2
      exact absurd (nat_zero ho h2.symm) (by simp)
    · have h3 := cmp_eq h1
      rw [add_eq n m q r h1, nat_eq n m q r h1] at h
      injection h with _ _ h2
      exact .inr ⟨h3.symm, nat_zero ho.2 h2.symm⟩
    · rw [add_gt n m q r h1, nat_gt n m q r h1] at h
      injection h with _ _ h2
      exact .inl ⟨by have := cmp_swap e f; omega, ge_of hm ho.2 h2⟩

theorem step_c (k n : Int) (e : T) {x : T} (h : x ≠ z) : (c n e x).step k = c n e (x.step k) := by
  cases x with
  | z => exact absurd rfl h
  | c _ _ _ => rfl
theorem step_end (k n : Int) (e : T) : (c n e z).step k = (if n = 1 then z else c (n - 1) e z).app (tail k e) := rfl
theorem tail_form (k : Int) (f : T) : tail k f = z ∨ ∃ m, tail k f = c m (f.step k) z ∧ (f.step k).cmp f = -1 ∧ (0 ≤ k → 1 ≤ m) := by
  unfold tail
  by_cases h0 : f.kind = 0
  · rw [if_pos h0]; exact .inl rfl
  · have hf : f ≠ z := by rintro rfl; exact h0 rfl
    rw [if_neg h0]
    split
    · split
      · exact .inl rfl
      · exact .inr ⟨k, rfl, step_lt k hf, fun h => by omega⟩
    · exact .inr ⟨1, rfl, step_lt k hf, fun h => by omega⟩
theorem step_first (k m : Int) (f r : T) : (c m f r).step k = z ∨ ∃ m' f' r', (c m f r).step k = c m' f' r' ∧ (f' = f ∨ f'.cmp f = -1) := by
  cases r with
  | c m' f' r' => exact .inr ⟨m, f, _, rfl, .inl rfl⟩
  | z =>
    rw [step_end]
    split
    · rcases tail_form k f with h | ⟨x, h, h2, _⟩
      · rw [h]; exact .inl rfl
      · rw [h]; exact .inr ⟨x, _, _, rfl, .inr h2⟩
    · exact .inr ⟨_, f, _, rfl, .inl rfl⟩
theorem geB_step {k : Int} {b o : T} (h : GeB b o) (hb : b ≠ z) : GeB (b.step k) o := by
  cases b with
  | z => exact absurd rfl hb
  | c m f r =>
    intro m1 f1 r1 h1
    have h2 := h m f r rfl
    rcases step_first k m f r with h3 | ⟨m', f', r', h3, h4⟩
    · rw [h3] at h1; cases h1
    · rw [h3] at h1
      injection h1 with _ h5 _
      subst h5
      rcases h4 with rfl | h4
      · exact h2
      · exact ge_less h4 h2
theorem pos_app {d u : T} (h : d.Pos) (h' : u.Pos) : (d.app u).Pos := by
  induction d with
  | z => exact h'
  | c n e r _ ih => exact ⟨h.1, ih h.2⟩
theorem step_pos {k : Int} (hk : 0 ≤ k) {t : T} (h : t.Pos) : (t.step k).Pos := by
  induction t with
  | z => trivial
  | c n e r _ ih =>
    cases r with
    | c m f q => exact ⟨h.1, ih h.2⟩
    | z =>
      rw [step_end]
      refine pos_app ?_ ?_
      · split
        · trivial
        · have := h.1; exact ⟨by omega, trivial⟩
      · rcases tail_form k e with h2 | ⟨x, h2, _, h3⟩
        · rw [h2]; trivial
        · rw [h2]; exact ⟨h3 hk, trivial⟩

theorem nat_step (k : Int) {m : Int} {f r : T} (hm : 1 ≤ m) : ∀ {o : T}, o.Pos → Ge f o → (nat o (c m f r)).step k = nat o ((c m f r).step k)
  | z, _, _ => by rw [z_nat, z_nat]
  | c n e q, ho, h => by
    rcases h with ⟨h1, h2⟩ | ⟨rfl, rfl⟩
    · rw [nat_gt n m q r (by have := cmp_swap f e; omega), step_c k n e (nat_ne hm), nat_step k hm ho.2 h2]
      rcases step_first k m f r with h3 | ⟨m', f', r', h3, h4⟩
      · rw [h3, nat_z, nat_z]
      · rw [h3, nat_gt]
        rcases h4 with rfl | h4
        · have := cmp_swap f' e; omega
        · have h5 := cmp_trans h4 h1
          have := cmp_swap f' e
          omega
    · rw [nat_eq n m z r (cmp_refl f), z_nat]
      have hn := ho.1
      cases r with
      | c m' f' r' =>
        rw [step_c k _ _ (by simp), step_c k m f (by simp), nat_eq n m z _ (cmp_refl f), z_nat]
      | z =>
        rw [step_end, step_end, if_neg (by omega)]
        by_cases h1 : m = 1
        · subst h1
          rw [if_pos rfl, show n + 1 - 1 = n by omega]
          rcases tail_form k f with h2 | ⟨x, h2, h3, _⟩
          · rw [h2]; rw [show (z : T).app z = z from rfl, nat_z]; rfl
          · rw [h2, show (z : T).app (c x (f.step k) z) = c x (f.step k) z from rfl, nat_gt n x z z (by have := cmp_swap (f.step k) f; omega), z_nat]; rfl
        · rw [if_neg h1]
          simp only [app]
          rw [nat_eq n (m - 1) z _ (cmp_refl f), z_nat, show n + m - 1 = n + (m - 1) by omega]

/-- Steps add up. -/
theorem Runs.nat {k : Int} (hk : 0 ≤ k) {b o : T} {p s : Nat} (hb : Runs k b p) (ho : Runs k o s) (pb : b.Pos) (po : o.Pos) (h : GeB b o) : Runs k (T.nat o b) (s + p) := by
  induction hb with
  | z => rw [nat_z]; exact ho
  | @s b n h1 h2 ih =>
    cases b with
    | z => exact absurd rfl h1
    | c m f r =>
      refine .s (nat_ne pb.1) ?_
      rw [nat_step k pb.1 po (h m f r rfl)]
      exact ih (step_pos hk pb) (geB_step h h1)

/-- StepsDown: at most so many steps. -/
noncomputable def down (k : Int) : Nat → T → Option (Nat × Nat)
  | _, z => some (0, 0)
  | 0, c _ _ _ => none
  | g + 1, c n e r => if vldB ((c n e r).step k).enc = true then (down k g ((c n e r).step k)).map (fun p => (p.1 + 1, p.2 + if (c n e r).kind = 1 then 1 else 0)) else none
theorem down_z (k : Int) (g : Nat) : down k g z = some (0, 0) := by cases g <;> rfl
theorem down_s (k : Int) (g : Nat) {t : T} (h : t ≠ z) : down k (g + 1) t = if vldB (t.step k).enc = true then (down k g (t.step k)).map (fun p => (p.1 + 1, p.2 + if t.kind = 1 then 1 else 0)) else none := by
  cases t with
  | z => exact absurd rfl h
  | c n e r => rfl
theorem down_0 (k : Int) {t : T} (h : t ≠ z) : down k 0 t = none := by
  cases t with
  | z => exact absurd rfl h
  | c n e r => rfl
theorem nf_enc {t : T} (h : vldB t.enc = true) : t.Nf := by have := nf_of h; rwa [of_enc] at this

theorem down_some {k : Int} {g : Nat} {t : T} {p : Nat × Nat} (h : down k g t = some p) : Runs k t p.1 ∧ p.2 ≤ p.1 ∧ p.1 ≤ g := by
  induction g generalizing t p with
  | zero =>
    cases t with
    | z => rw [down_z] at h; injection h with h; subst h; exact ⟨.z, Nat.le_refl _, Nat.le_refl _⟩
    | c n e r => rw [down_0 k (by simp)] at h; cases h
  | succ g ih =>
    cases t with
    | z => rw [down_z] at h; injection h with h; subst h; exact ⟨.z, Nat.le_refl _, Nat.zero_le _⟩
    | c n e r =>
      rw [down_s k g (by simp)] at h
      split at h
      · cases hd : down k g ((c n e r).step k) with
        | none => rw [hd] at h; cases h
        | some q =>
          rw [hd] at h
          simp only [Option.map_some, Option.some.injEq] at h
          obtain ⟨i1, i2, i3⟩ := ih hd
          subst h
          refine ⟨.s (by simp) i1, ?_, ?_⟩
          · dsimp only; split <;> omega
          · dsimp only; omega
      · cases h
theorem down_slow {k : Nat} (hk : 1 ≤ k) {g : Nat} {t : T} {p : Nat × Nat} (ht : t.Nf) (h : down k g t = some p) : t.slow k = p.2 := by
  induction g generalizing t p with
  | zero =>
    cases t with
    | z => rw [down_z] at h; injection h with h; subst h; rfl
    | c n e r => rw [down_0 k (by simp)] at h; cases h
  | succ g ih =>
    cases t with
    | z => rw [down_z] at h; injection h with h; subst h; rfl
    | c n e r =>
      rw [down_s k g (by simp)] at h
      split at h
      · rename_i hv
        cases hd : down k g ((c n e r).step k) with
        | none => rw [hd] at h; cases h
        | some q =>
          rw [hd] at h
          simp only [Option.map_some, Option.some.injEq] at h
          have i1 := ih (nf_enc hv) hd
          obtain ⟨j1, j2⟩ := slow_step hk ht
          subst h
          dsimp only
          rcases kind_vals (c n e r) with ⟨_, h2⟩ | ⟨h2 | h2, _⟩
          · cases h2
          · have := j1 h2; rw [if_pos h2]; omega
          · have := j2 h2; rw [if_neg (by omega)]; omega
      · cases h

noncomputable def downP (xs : List Int) (n : Int) : Option (Nat × Nat) := if vldB xs = true ∧ 0 ≤ n ∧ n ≤ 99 then down n 3000 (of xs) else none
noncomputable def downS (xs : List Int) (n : Int) : Int := match downP xs n with | some p => (p.1 : Int) | none => -1
noncomputable def downO (xs : List Int) (n : Int) : Int := match downP xs n with | some p => (p.2 : Int) | none => -1

/-- OrdFall. -/
noncomputable def fall : List Int → T → Option (List T)
  | _, z => some []
  | [], c _ _ _ => some []
  | k :: ks, c n e r => if vldB ((c n e r).step k).enc = true then (fall ks ((c n e r).step k)).map (fun l => (c n e r).step k :: l) else none
theorem fall_z (ks : List Int) : fall ks z = some [] := by cases ks <;> rfl
theorem fall_nil (t : T) : fall [] t = some [] := by cases t <;> rfl
theorem fall_s (k : Int) (ks : List Int) {t : T} (h : t ≠ z) : fall (k :: ks) t = if vldB (t.step k).enc = true then (fall ks (t.step k)).map (fun l => t.step k :: l) else none := by
  cases t with
  | z => exact absurd rfl h
  | c n e r => rfl

end T
end Go.Proofs.Ythalogciiochfaa
