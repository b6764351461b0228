/- Sums: brackets do not matter, and the order of the second ones stays. -/
import Derived.Test.YtlbaelehmoidpaaAdd
namespace Go.Proofs.Ytlbaelehmoidpaa
set_option maxRecDepth 100000
namespace T

theorem add_z (s : T) : add s z = s := rfl
theorem z_add (t : T) : add z t = t := by cases t <;> rfl
theorem add_gt {f e : T} (n m : Int) (q r : T) (h : f.cmp e = 1) : add (c n f q) (c m e r) = c n f (add q (c m e r)) := by
  rw [add, (take_step n q h).1, (take_step n q h).2]; rfl
theorem add_eq {f e : T} (n m : Int) (q r : T) (h : f.cmp e = 0) : add (c n f q) (c m e r) = c (m + n) e r := by
  rw [add, (take_stop n q (by omega)).1, (take_stop n q (by omega)).2, addTail, if_pos h]; rfl
theorem add_lt {f e : T} (n m : Int) (q r : T) (h : f.cmp e = -1) : add (c n f q) (c m e r) = c m e r := by
  rw [add, (take_stop n q (by omega)).1, (take_stop n q (by omega)).2, addTail, if_neg (by omega)]; rfl

theorem cmp_gt {n m : Int} {f e q r : T} (h : f.cmp e = 1) : (c n f q).cmp (c m e r) = 1 := by rw [cmp_c, if_neg (by omega), h]
theorem cmp_lt {n m : Int} {f e q r : T} (h : f.cmp e = -1) : (c n f q).cmp (c m e r) = -1 := by rw [cmp_c, if_neg (by omega), h]
theorem cmp_same (n : Int) (f q r : T) : (c n f q).cmp (c n f r) = q.cmp r := by rw [cmp_c, if_pos (cmp_refl f), if_neg (by omega), if_neg (by omega)]
theorem cmp_less {n m : Int} (f q r : T) (h : n < m) : (c n f q).cmp (c m f r) = -1 := by rw [cmp_c, if_pos (cmp_refl f), if_pos h]
theorem cmp_more {n m : Int} (f q r : T) (h : m < n) : (c n f q).cmp (c m f r) = 1 := by rw [cmp_c, if_pos (cmp_refl f), if_neg (by omega), if_pos h]
theorem cmp_trans' {a b d : T} (h1 : a.cmp b = 1) (h2 : b.cmp d = 1) : a.cmp d = 1 := by
  have h3 := cmp_swap a b
  have h4 := cmp_swap b d
  have h5 := cmp_trans (a := d) (b := b) (d := a) (by omega) (by omega)
  have h6 := cmp_swap d a
  omega

/-- Numbers of terms that are there. -/
def Pos : T → Prop
  | z => True
  | c n _ r => 1 ≤ n ∧ r.Pos
theorem nf_pos {t : T} (h : t.Nf) : t.Pos := by
  induction t with
  | z => trivial
  | c n e r _ ih => exact ⟨h.1, ih h.2.2.2.1⟩

theorem add_self {s : T} {m : Int} {e r : T} (hm : 1 ≤ m) : (add s (c m e r)).cmp s = 1 := by
  induction s with
  | z => rfl
  | c n f q _ ih =>
    rcases cmp_vals f e with h | h | h
    · rw [add_lt n m q r h]
      exact cmp_gt (by have := cmp_swap f e; omega)
    · rw [add_eq n m q r h]
      have hfe := cmp_eq h
      subst hfe
      exact cmp_more _ _ _ (by omega)
    · rw [add_gt n m q r h, cmp_same]; exact ih

theorem add_mono : ∀ (s b d : T), s.Pos → b.Pos → d.Pos → (add s d).cmp (add s b) = d.cmp b := by
  intro s
  induction s with
  | z => intro b d _ _ _; rw [z_add, z_add]
  | c n f q _ ih =>
    intro b d hs hb hd
    cases b with
    | z =>
      cases d with
      | z => rw [cmp_refl, cmp_refl]
      | c m e r => rw [add_z, add_self hd.1]; rfl
    | c m' e' r' =>
      cases d with
      | z =>
        have h1 := add_self (s := c n f q) (e := e') (r := r') hb.1
        have h2 := cmp_swap (add (c n f q) (c m' e' r')) (c n f q)
        rw [add_z]
        have h3 : (z : T).cmp (c m' e' r') = -1 := rfl
        omega
      | c m e r =>
        have hsw := cmp_swap f e
        have hsw' := cmp_swap f e'
        rcases cmp_vals f e with h | h | h <;> rcases cmp_vals f e' with h' | h' | h'
        · rw [add_lt n m q r h, add_lt n m' q r' h']
        · rw [add_lt n m q r h, add_eq n m' q r' h']
          have hfe := cmp_eq h'
          subst hfe
          rw [cmp_gt (by omega), cmp_gt (by omega)]
        · rw [add_lt n m q r h, add_gt n m' q r' h', cmp_gt (by omega), cmp_gt (cmp_trans' (b := f) (by omega) h')]
        · rw [add_eq n m q r h, add_lt n m' q r' h']
          have hfe := cmp_eq h
          subst hfe
          rw [cmp_lt h', cmp_lt h']
        · rw [add_eq n m q r h, add_eq n m' q r' h']
          have hfe := cmp_eq h
          have hfe' := cmp_eq h'
          subst hfe; subst hfe'
          rcases Int.lt_trichotomy m m' with h1 | h1 | h1
          · rw [cmp_less _ _ _ (by omega), cmp_less _ _ _ h1]
          · subst h1; rw [cmp_same, cmp_same]
          · rw [cmp_more _ _ _ (by omega), cmp_more _ _ _ h1]
        · rw [add_eq n m q r h, add_gt n m' q r' h']
          have hfe := cmp_eq h
          subst hfe
          rw [cmp_more _ _ _ (by have := hd.1; omega), cmp_gt h']
        · rw [add_gt n m q r h, add_lt n m' q r' h', cmp_lt h', cmp_lt (cmp_trans (b := f) (by omega) h')]
        · rw [add_gt n m q r h, add_eq n m' q r' h']
          have hfe := cmp_eq h'
          subst hfe
          rw [cmp_less _ _ _ (by have := hb.1; omega), cmp_lt (by omega)]
        · rw [add_gt n m q r h, add_gt n m' q r' h', cmp_same]
          exact ih _ _ hs.2 hb hd

theorem add_ge_r : ∀ (s b : T), s.Pos → (add s b).cmp b ≠ -1 := by
  intro s b hs
  cases b with
  | z => rw [add_z]; cases s <;> simp [cmp]
  | c m e r =>
    cases s with
    | z => rw [z_add, cmp_refl]; decide
    | c n f q =>
      rcases cmp_vals f e with h | h | h
      · rw [add_lt n m q r h, cmp_refl]; decide
      · rw [add_eq n m q r h, cmp_more _ _ _ (by have := hs.1; omega)]; decide
      · rw [add_gt n m q r h, cmp_gt h]; decide

theorem add_assoc : ∀ (a b d : T), add (add a b) d = add a (add b d) := by
  intro a
  induction a with
  | z => intro b d; rw [z_add, z_add]
  | c n f q _ ih =>
    intro b d
    cases d with
    | z => rfl
    | c k g p =>
      cases b with
      | z => rw [add_z, z_add]
      | c m e r =>
        rcases cmp_vals e g with h | h | h
        · rw [add_lt m k r p h]
          rcases cmp_vals f e with h' | h' | h'
          · rw [add_lt n m q r h', add_lt m k r p h, add_lt n k q p (cmp_trans h' h)]
          · have hfe := cmp_eq h'
            subst hfe
            rw [add_eq n m q r h', add_lt (m + n) k r p h, add_lt n k q p h]
          · rw [add_gt n m q r h']
            rcases cmp_vals f g with h2 | h2 | h2
            · rw [add_lt n k _ p h2, add_lt n k q p h2]
            · rw [add_eq n k _ p h2, add_eq n k q p h2]
            · rw [add_gt n k _ p h2, add_gt n k q p h2, ih, add_lt m k r p h]
        · rw [add_eq m k r p h]
          have heg := cmp_eq h
          subst heg
          rcases cmp_vals f e with h' | h' | h'
          · rw [add_lt n m q r h', add_eq m k r p h, add_lt n (k + m) q p h']
          · rw [add_eq n m q r h', add_eq (m + n) k r p h, add_eq n (k + m) q p h', Int.add_assoc]
          · rw [add_gt n m q r h', add_gt n k _ p h', add_gt n (k + m) q p h', ih, add_eq m k r p h]
        · rw [add_gt m k r p h]
          rcases cmp_vals f e with h' | h' | h'
          · rw [add_lt n m q r h', add_gt m k r p h, add_lt n m q _ h']
          · have hfe := cmp_eq h'
            subst hfe
            rw [add_eq n m q r h', add_gt (m + n) k r p h, add_eq n m q _ h']
          · rw [add_gt n m q r h', add_gt n k _ p (cmp_trans' h' h), add_gt n m q _ h', ih, add_gt m k r p h]

theorem addOk_true {xs ys : List Int} (h : addOk xs ys = true) : vldB xs = true ∧ vldB ys = true ∧ vldB (addRow xs ys) = true ∧ of (addRow xs ys) = add (of xs) (of ys) := by
  have h1 : (vldB xs = true ∧ vldB ys = true) ∧ vldB (add (of xs) (of ys)).enc = true := by simpa [addOk] using h
  have h2 : addRow xs ys = (add (of xs) (of ys)).enc := by rw [(addRow_val h1.1.1 h1.1.2).1, fit, if_pos h1.2]
  exact ⟨h1.1.1, h1.1.2, by rw [h2]; exact h1.2, by rw [h2, of_enc]⟩
theorem addOk_false {xs ys : List Int} (h : addOk xs ys = false) : addRow xs ys = [] := by
  rw [addRow]
  split
  · rename_i h1
    rw [fit, if_neg]
    intro h2
    rw [addOk, h1.1, h1.2, h2] at h
    cases h
  · rfl
theorem addRow_assoc {xs ys zs : List Int} (h : addOk xs ys = true) (hp : addOk (addRow xs ys) zs = true) (hq : addOk ys zs = true) (hr : addOk xs (addRow ys zs) = true) :
    addRow (addRow xs ys) zs = addRow xs (addRow ys zs) := by
  obtain ⟨_, _, _, a4⟩ := addOk_true h
  obtain ⟨_, _, b3, b4⟩ := addOk_true hp
  obtain ⟨_, _, _, c4⟩ := addOk_true hq
  obtain ⟨_, _, d3, d4⟩ := addOk_true hr
  rw [← enc_of b3, ← enc_of d3, b4, d4, a4, c4, add_assoc]
theorem addRow_mono {xs ys zs : List Int} (h : addOk xs ys = true) (hs : addOk xs zs = true) : cmpRow (addRow xs zs) (addRow xs ys) = cmpRow zs ys := by
  obtain ⟨a1, a2, a3, a4⟩ := addOk_true h
  obtain ⟨_, b2, b3, b4⟩ := addOk_true hs
  rw [cmpRow_val b3 a3, cmpRow_val b2 a2, b4, a4]
  exact add_mono _ _ _ (nf_pos (nf_of a1)) (nf_pos (nf_of a2)) (nf_pos (nf_of b2))
theorem addRow_ge {xs ys : List Int} (h : addOk xs ys = true) : 0 ≤ cmpRow (addRow xs ys) xs ∧ 0 ≤ cmpRow (addRow xs ys) ys := by
  obtain ⟨a1, a2, a3, a4⟩ := addOk_true h
  rw [cmpRow_val a3 a1, cmpRow_val a3 a2, a4]
  constructor
  · have h1 := add_mono (of xs) z (of ys) (nf_pos (nf_of a1)) trivial (nf_pos (nf_of a2))
    rw [add_z] at h1
    have h2 : 0 ≤ (of ys).cmp z := by cases of ys <;> simp [cmp]
    omega
  · have h1 := add_ge_r (of xs) (of ys) (nf_pos (nf_of a1))
    rcases cmp_vals (add (of xs) (of ys)) (of ys) with h | h | h <;> omega

end T
end Go.Proofs.Ytlbaelehmoidpaa
