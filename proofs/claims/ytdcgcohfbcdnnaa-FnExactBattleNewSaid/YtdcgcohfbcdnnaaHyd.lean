/- Plain mathematics of hydras as rows of numbers: trees and their rows, and what a row can be read as. It imports nothing of the program. -/
import Derived.WalkKit
namespace Go.Proofs.Ytdcgcohfbcdnnaa
set_option maxRecDepth 100000

/-- The branches of a hydra's root: none, or one (with its own branches) and the others. -/
inductive H where
  | z : H
  | c : H → H → H

namespace H

def cnt : H → Nat
  | z => 0
  | c _ r => r.cnt + 1

def body : H → List Int
  | z => []
  | c k r => (k.cnt : Int) :: (k.body ++ r.body)

def enc (f : H) : List Int := (f.cnt : Int) :: f.body

theorem enc_len (f : H) : f.enc.length = f.body.length + 1 := by simp [enc]
theorem body_c (k r : H) : (c k r).body = k.enc ++ r.body := by simp [body, enc]
theorem enc_ne (f : H) : f.enc ≠ [] := by simp [enc]
theorem cnt_le (f : H) : f.cnt ≤ f.body.length := by
  induction f with
  | z => simp [cnt]
  | c k r ihk ihr => simp [cnt, body]; omega

theorem body_inj (s t : H) : ∀ (r₁ r₂ : List Int), s.cnt = t.cnt → s.body ++ r₁ = t.body ++ r₂ → s = t ∧ r₁ = r₂ := by
  induction s generalizing t with
  | z =>
    intro r₁ r₂ hc h
    cases t with
    | z => exact ⟨rfl, by simpa [body] using h⟩
    | c k r => simp [cnt] at hc
  | c k r ihk ihr =>
    intro r₁ r₂ hc h
    cases t with
    | z => simp [cnt] at hc
    | c k' r' =>
      simp only [body, List.cons_append, List.cons.injEq, List.append_assoc] at h
      obtain ⟨h1, h2⟩ := h
      obtain ⟨hk, h4⟩ := ihk k' _ _ (by omega) h2
      obtain ⟨hr, h5⟩ := ihr r' _ _ (by simpa [cnt] using hc) h4
      exact ⟨by rw [hk, hr], h5⟩

theorem enc_inj {s t : H} {r₁ r₂ : List Int} (h : s.enc ++ r₁ = t.enc ++ r₂) : s = t ∧ r₁ = r₂ := by
  simp only [enc, List.cons_append, List.cons.injEq] at h
  exact body_inj s t r₁ r₂ (by omega) h.2

theorem enc_inj' {s t : H} (h : s.enc = t.enc) : s = t := (enc_inj (r₁ := []) (r₂ := []) (by simpa using h)).1

/-- The branches of one behind those of another one. -/
def app : H → H → H
  | z, s => s
  | c k r, s => c k (r.app s)
theorem app_body (t s : H) : (t.app s).body = t.body ++ s.body := by
  induction t with
  | z => simp [app, body]
  | c k r _ ih => simp [app, body, ih]
theorem app_cnt (t s : H) : (t.app s).cnt = t.cnt + s.cnt := by
  induction t with
  | z => simp [app, cnt]
  | c k r _ ih => simp [app, cnt, ih]; omega
theorem app_z (t : H) : t.app z = t := by
  induction t with
  | z => rfl
  | c k r _ ih => simp [app, ih]
theorem app_assoc (t s u : H) : (t.app s).app u = t.app (s.app u) := by
  induction t with
  | z => rfl
  | c k r _ ih => simp [app, ih]
theorem cnt_zero {t : H} (h : t.cnt = 0) : t = z := by
  cases t with
  | z => rfl
  | c k r => simp [cnt] at h
theorem cnt_succ {t : H} {k : Nat} (h : t.cnt = k + 1) : ∃ b r, t = c b r ∧ r.cnt = k := by
  cases t with
  | z => simp [cnt] at h
  | c b r => exact ⟨b, r, rfl, by simpa [cnt] using h⟩
theorem cnt_pos {t : H} (h : 0 < t.cnt) : ∃ b r, t = c b r := by
  cases t with
  | z => simp [cnt] at h
  | c b r => exact ⟨b, r, rfl⟩

/-- The first n branches, and the others. -/
theorem split (n : Nat) : ∀ (m : Nat) (f : H), f.cnt = n + m → ∃ k r, f = app k r ∧ k.cnt = n ∧ r.cnt = m := by
  induction n with
  | zero => intro m f h; exact ⟨z, f, rfl, rfl, by omega⟩
  | succ n ih =>
    intro m f h
    obtain ⟨b, r, rfl, hr⟩ := cnt_succ (t := f) (k := n + m) (by omega)
    obtain ⟨k, s, rfl, h1, h2⟩ := ih m r hr
    exact ⟨c b k, s, rfl, by simp [cnt, h1], h2⟩

/-- So many trees, one behind the other, and nothing behind. -/
def Fits (m : Nat) (ys : List Int) : Prop := ∃ f : H, f.cnt = m ∧ ys = f.body

theorem fits_zero {ys : List Int} : Fits 0 ys ↔ ys = [] := by
  constructor
  · rintro ⟨f, h, rfl⟩; rw [cnt_zero h]; rfl
  · rintro rfl; exact ⟨z, rfl, rfl⟩
theorem fits_nil {m : Nat} : Fits m [] ↔ m = 0 := by
  constructor
  · rintro ⟨f, h, h2⟩
    have := cnt_le f
    rw [← h2] at this
    simp at this; omega
  · rintro rfl; exact ⟨z, rfl, rfl⟩
theorem fits_cons {m j : Nat} {ys : List Int} : Fits (m + 1) ((j : Int) :: ys) ↔ Fits (m + j) ys := by
  constructor
  · rintro ⟨f, h, h2⟩
    obtain ⟨b, r, rfl, hr⟩ := cnt_succ h
    simp only [body, List.cons.injEq] at h2
    exact ⟨b.app r, by rw [app_cnt]; omega, by rw [app_body, h2.2]⟩
  · rintro ⟨f, h, rfl⟩
    obtain ⟨k, r, rfl, h1, h2⟩ := split j m f (by omega)
    exact ⟨c k r, by simp [cnt, h2], by rw [app_body, body, h1]⟩
theorem fits_neg {m : Nat} {x : Int} {ys : List Int} (hx : x < 0) : ¬ Fits m (x :: ys) := by
  rintro ⟨f, h, h2⟩
  cases f with
  | z => simp [body] at h2
  | c k r => simp only [body, List.cons.injEq] at h2; omega
theorem fits_big {m : Nat} {x : Int} {ys : List Int} (hx : (ys.length : Int) < x) : ¬ Fits m (x :: ys) := by
  rintro ⟨f, h, h2⟩
  cases f with
  | z => simp [body] at h2
  | c k r =>
    simp only [body, List.cons.injEq] at h2
    have := cnt_le k
    rw [h2.2] at hx
    simp at hx; omega
theorem fits_one {xs : List Int} : Fits 1 xs ↔ ∃ f : H, xs = f.enc := by
  constructor
  · rintro ⟨f, h, h2⟩
    obtain ⟨b, r, rfl, hr⟩ := cnt_succ h
    rw [cnt_zero hr] at h2
    exact ⟨b, by rw [h2, body_c]; simp [body]⟩
  · rintro ⟨f, rfl⟩
    exact ⟨c f z, rfl, by rw [body_c]; simp [body]⟩

/-- How many numbers are left behind m trees, -1 if there aren't so many. -/
noncomputable def out (m : Nat) (ys : List Int) : Int :=
  open Classical in if h : ∃ (rest : List Int) (f : H), ys = f.body ++ rest ∧ f.cnt = m then (h.choose.length : Int) else -1
theorem out_of {m : Nat} {ys rest : List Int} {f : H} (h : ys = f.body ++ rest) (hc : f.cnt = m) : out m ys = rest.length := by
  unfold out
  have hx : ∃ (rest : List Int) (f : H), ys = f.body ++ rest ∧ f.cnt = m := ⟨rest, f, h, hc⟩
  rw [dif_pos hx]
  obtain ⟨g, h1, h2⟩ := hx.choose_spec
  rw [← (body_inj f g _ _ (by omega) (h.symm.trans h1)).2]
theorem out_none {m : Nat} {ys : List Int} (h : ∀ (f : H) rest, ys = f.body ++ rest → ¬ f.cnt = m) : out m ys = -1 := by
  unfold out
  rw [dif_neg (fun ⟨rest, f, h1, h2⟩ => h f rest h1 h2)]
theorem out_cases (m : Nat) (ys : List Int) : out m ys = -1 ∨ ∃ (f : H) (rest : List Int), ys = f.body ++ rest ∧ f.cnt = m ∧ out m ys = rest.length := by
  by_cases hx : ∃ (rest : List Int) (f : H), ys = f.body ++ rest ∧ f.cnt = m
  · obtain ⟨rest, f, h1, h2⟩ := hx
    exact .inr ⟨f, rest, h1, h2, out_of h1 h2⟩
  · exact .inl (out_none fun f rest h1 h2 => hx ⟨rest, f, h1, h2⟩)
theorem out_zero (ys : List Int) : out 0 ys = ys.length := out_of (f := z) (by simp [body]) rfl
/-- A tree more: it is read where the first one is read and the others behind it. -/
theorem out_one {k : Nat} {ys zs : List Int} {e : H} (h : ys = e.enc ++ zs) : out (k + 1) ys = out k zs := by
  rcases out_cases k zs with h1 | ⟨f, rest, h1, h2, h3⟩
  · rw [h1]
    refine out_none fun g rest hg hc => ?_
    obtain ⟨b, r, rfl, hr⟩ := cnt_succ hc
    rw [h, body_c, List.append_assoc] at hg
    obtain ⟨_, h2⟩ := enc_inj hg
    rw [out_of (f := r) h2 hr] at h1
    omega
  · rw [h3]
    refine out_of (f := c e f) ?_ (by simp [cnt, h2])
    rw [h, h1, body_c, List.append_assoc]
theorem out_no {k : Nat} {ys : List Int} (h : out 1 ys = -1) : out (k + 1) ys = -1 := by
  refine out_none fun g rest hg hc => ?_
  obtain ⟨b, r, rfl, hr⟩ := cnt_succ hc
  rw [body_c, List.append_assoc] at hg
  rw [out_of (m := 1) (f := c b z) (rest := r.body ++ rest) (by rw [hg, body_c]; simp [body]) rfl] at h
  omega
theorem out_nil (k : Nat) : out (k + 1) [] = -1 := out_none fun g rest hg hc => by
  obtain ⟨b, r, rfl, hr⟩ := cnt_succ hc
  simp [body] at hg
theorem out_neg {k : Nat} {x : Int} {ys : List Int} (h : x < 0) : out (k + 1) (x :: ys) = -1 := out_none fun g rest hg hc => by
  obtain ⟨b, r, rfl, hr⟩ := cnt_succ hc
  simp [body] at hg
  omega
theorem out_big {k : Nat} {x : Int} {ys : List Int} (h : (ys.length : Int) < x) : out (k + 1) (x :: ys) = -1 := out_none fun g rest hg hc => by
  obtain ⟨b, r, rfl, hr⟩ := cnt_succ hc
  simp only [body, List.cons_append, List.cons.injEq, List.append_assoc] at hg
  have h1 := cnt_le b
  rw [hg.2] at h
  simp at h
  omega
theorem out_head {j : Nat} {ys : List Int} : out 1 ((j : Int) :: ys) = out j ys := by
  rcases out_cases j ys with h1 | ⟨f, rest, h1, h2, h3⟩
  · rw [h1]
    refine out_none fun g rest hg hc => ?_
    obtain ⟨b, r, rfl, hr⟩ := cnt_succ hc
    obtain rfl := cnt_zero hr
    simp only [body, List.cons_append, List.cons.injEq, List.append_nil] at hg
    rw [out_of (f := b) hg.2 (by omega)] at h1
    omega
  · rw [h3]
    exact out_of (f := c f z) (by rw [body_c, h1]; simp [enc, body, h2]) rfl

/-- A row that HydraValid reports. -/
def Hv (xs : List Int) : Prop := xs.length ≤ 60 ∧ ∃ f : H, xs = f.enc
noncomputable def hvB (xs : List Int) : Bool := @decide (Hv xs) (Classical.propDecidable _)
theorem hvB_true {xs : List Int} : hvB xs = true ↔ Hv xs := by unfold hvB; simp
theorem hvB_false {xs : List Int} : hvB xs = false ↔ ¬ Hv xs := by unfold hvB; simp
theorem hv_tf (xs : List Int) : hvB xs = true ∨ hvB xs = false := by cases hvB xs <;> simp
theorem hv_fits {xs : List Int} (h : xs.length ≤ 60) : Hv xs ↔ Fits 1 xs := by
  rw [fits_one]; exact ⟨fun h => h.2, fun h' => ⟨h, h'⟩⟩
theorem hv_out {xs : List Int} (h : xs.length ≤ 60) : Hv xs ↔ out 1 xs = 0 := by
  constructor
  · rintro ⟨_, f, rfl⟩
    rw [out_of (m := 1) (f := c f z) (rest := []) (by rw [body_c]; simp [body]) rfl]; rfl
  · intro h0
    refine ⟨h, ?_⟩
    rcases out_cases 1 xs with h1 | ⟨f, rest, h1, h2, h3⟩
    · omega
    · obtain ⟨b, r, rfl, hr⟩ := cnt_succ h2
      have : rest = [] := by
        cases rest with
        | nil => rfl
        | cons x r => simp at h3; omega
      subst this
      rw [cnt_zero hr] at h1
      exact ⟨b, by rw [h1, body_c]; simp [body]⟩

/-- The tree of a row. -/
noncomputable def of (xs : List Int) : H := open Classical in if h : ∃ f : H, xs = f.enc then h.choose else .z
theorem of_enc (f : H) : of f.enc = f := by
  unfold of
  have h : ∃ s : H, f.enc = s.enc := ⟨f, rfl⟩
  rw [dif_pos h]
  exact (enc_inj' h.choose_spec).symm
theorem hv_of {xs : List Int} (h : hvB xs = true) : ∃ f : H, xs = f.enc ∧ f.enc.length ≤ 60 ∧ of xs = f := by
  obtain ⟨h1, f, rfl⟩ := hvB_true.1 h
  exact ⟨f, rfl, h1, of_enc f⟩
theorem hv_mk {f : H} (h : f.enc.length ≤ 60) : hvB f.enc = true := hvB_true.2 ⟨h, f, rfl⟩

/-- How many of the numbers are 0. -/
def noughts : List Int → Nat
  | [] => 0
  | x :: xs => (if x = 0 then 1 else 0) + noughts xs
theorem noughts_app (xs ys : List Int) : noughts (xs ++ ys) = noughts xs + noughts ys := by
  induction xs with
  | nil => simp [noughts]
  | cons x xs ih => simp [noughts, ih]; omega
theorem noughts_le (xs : List Int) : noughts xs ≤ xs.length := by
  induction xs with
  | nil => simp [noughts]
  | cons x xs ih => simp only [noughts, List.length_cons]; split <;> omega
/-- HydraHeads. -/
noncomputable def headsRow (xs : List Int) : Int := if hvB xs = true then (noughts (xs.drop 1) : Int) else -1

end H
end Go.Proofs.Ytdcgcohfbcdnnaa
