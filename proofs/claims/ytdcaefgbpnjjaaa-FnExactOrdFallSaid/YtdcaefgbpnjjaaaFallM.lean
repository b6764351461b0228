/- Falls, on trees. -/
import Derived.Test.YtdcaefgbpnjjaaaStepsD
namespace Go.Proofs.Ytdcaefgbpnjjaaa
namespace T

/-- Behind these numbers the ordinal is u, and these have come. -/
inductive RunL (t : T) : List Int → T → List T → Prop
  | nil : RunL t [] t []
  | snoc {s : List Int} {u : T} {l : List T} {v : Int} : RunL t s u l → u ≠ z → vldB (u.step v).enc = true → RunL t (s ++ [v]) (u.step v) (l ++ [u.step v])

theorem RunL.fall {t : T} {s : List Int} {u : T} {l : List T} (h : RunL t s u l) (rest : List Int) : T.fall (s ++ rest) t = (T.fall rest u).map (fun m => l ++ m) := by
  induction h generalizing rest with
  | nil => simp
  | @snoc s u l v h1 h2 h3 ih =>
    rw [List.append_assoc, ih, List.singleton_append, fall_s v rest h2, if_pos h3, Option.map_map]
    congr 1
    funext m
    simp
theorem RunL.unique {t : T} {s : List Int} {u u' : T} {l l' : List T} (h : RunL t s u l) (h' : RunL t s u' l') : u = u' ∧ l = l' := by
  induction h generalizing u' l' with
  | nil =>
    generalize hs : ([] : List Int) = s at h'
    cases h' with
    | nil => exact ⟨rfl, rfl⟩
    | snoc _ _ _ => simp at hs
  | @snoc s u l v h1 h2 h3 ih =>
    generalize hs : s ++ [v] = s' at h'
    cases h' with
    | nil => simp at hs
    | @snoc s2 u2 l2 v2 k1 k2 k3 =>
      obtain ⟨e1, e2⟩ := List.append_inj' hs rfl
      subst e1
      cases e2
      obtain ⟨e3, e4⟩ := ih k1
      subst e3 e4
      exact ⟨rfl, rfl⟩
theorem RunL.len {t : T} {s : List Int} {u : T} {l : List T} (h : RunL t s u l) : l.length = s.length := by
  induction h with
  | nil => rfl
  | snoc _ _ _ ih => simp [ih]

/-- OrdFall, on rows. -/
noncomputable def fallP (xs ns : List Int) : Option (List T) := open Classical in if vldB xs = true ∧ ns.length ≤ 3000 ∧ (∀ v ∈ ns, 0 ≤ v ∧ v ≤ 99) then fall ns (of xs) else none

/-- Each is less than the one before. -/
def Desc : T → List T → Prop
  | _, [] => True
  | t, u :: l => u.cmp t = -1 ∧ Desc u l
theorem fall_desc : ∀ {ns : List Int} {t : T} {l : List T}, fall ns t = some l → Desc t l ∧ l.length ≤ ns.length ∧ ∀ u ∈ l, vldB u.enc = true
  | ns, z, l, h => by rw [fall_z] at h; cases h; exact ⟨trivial, Nat.zero_le _, fun u hu => by cases hu⟩
  | [], c n e r, l, h => by rw [fall_nil] at h; cases h; exact ⟨trivial, Nat.zero_le _, fun u hu => by cases hu⟩
  | k :: ks, c n e r, l, h => by
    rw [fall_s k ks (by simp)] at h
    split at h
    · rename_i hv
      cases hd : fall ks ((c n e r).step k) with
      | none => rw [hd] at h; cases h
      | some m =>
        rw [hd] at h
        simp only [Option.map_some, Option.some.injEq] at h
        subst h
        obtain ⟨h1, h2, h3⟩ := fall_desc hd
        refine ⟨⟨step_lt k (by simp), h1⟩, by simp; omega, fun u hu => ?_⟩
        rcases List.mem_cons.1 hu with rfl | hu
        · exact hv
        · exact h3 u hu
    · cases h

end T
end Go.Proofs.Ytdcaefgbpnjjaaa
