/- Ordinals of hydras, on trees and on rows. -/
import Derived.Test.YtlbaelehmoidpaaHyd
import Derived.Test.YtlbaelehmoidpaaNat
import Derived.Test.YtlbaelehmoidpaaFnMath
namespace Go.Proofs.Ytlbaelehmoidpaa
set_option maxRecDepth 100000
namespace T
/-- All numbers of terms together. -/
def sumN : T → Int
  | z => 0
  | c n _ r => n + r.sumN
theorem sumN_nonneg {t : T} (h : t.Nf) : 0 ≤ t.sumN := by
  induction t with
  | z => exact Int.le_refl 0
  | c n e r _ ih => obtain ⟨h1, _, _, h2, _⟩ := h; have := ih h2; simp only [sumN]; omega

/-- One term more. -/
theorem nat_one_nf {e : T} (he : e.Nf) : ∀ s : T, s.Nf → s.sumN + 1 ≤ 9999 → (nat s (c 1 e z)).Nf ∧ (nat s (c 1 e z)).sumN = s.sumN + 1 ∧ (∀ q, ok (some q) s → e.cmp q = -1 → ok (some q) (nat s (c 1 e z))) := by
  intro s
  induction s with
  | z =>
    intro _ _
    rw [z_nat]
    exact ⟨⟨by omega, by omega, he, trivial, ok_z _⟩, rfl, fun q _ h => ok_c.2 h⟩
  | c n f q _ ih =>
    intro hs hb
    obtain ⟨h1, h2, h3, h4, h5⟩ := hs
    have hq := sumN_nonneg h4
    simp only [sumN] at hb ⊢
    rcases cmp_vals f e with h | h | h
    · rw [nat_lt n 1 q z h, nat_z]
      refine ⟨⟨by omega, by omega, he, ⟨h1, h2, h3, h4, h5⟩, ok_c.2 h⟩, by simp only [sumN]; omega, fun p _ hp => ok_c.2 hp⟩
    · rw [nat_eq n 1 q z h, nat_z]
      refine ⟨⟨by omega, by omega, h3, h4, h5⟩, by simp only [sumN]; omega, fun p hp _ => ok_c.2 (ok_c.1 hp)⟩
    · rw [nat_gt n 1 q z h]
      obtain ⟨k1, k2, k3⟩ := ih h4 (by omega)
      have hsw := cmp_swap f e
      refine ⟨⟨h1, h2, h3, k1, k3 f h5 (by omega)⟩, by simp only [sumN]; rw [k2]; omega, fun p hp _ => ok_c.2 (ok_c.1 hp)⟩

theorem nat_one_len (e : T) : ∀ s : T, s.body.length ≤ (nat s (c 1 e z)).body.length ∧ (c 1 e z).body.length ≤ (nat s (c 1 e z)).body.length := by
  intro s
  induction s with
  | z => rw [z_nat]; exact ⟨by simp [body], Nat.le_refl _⟩
  | c n f q _ ih =>
    rcases cmp_vals f e with h | h | h
    · rw [nat_lt n 1 q z h, nat_z, body_c 1 e (c n f q), body_c 1 e z]
      simp [body]
      omega
    · have hef := cmp_eq h
      subst hef
      rw [nat_eq n 1 q z h, nat_z, body_c, body_c, body_c]
      simp [body]
    · rw [nat_gt n 1 q z h, body_c n f (nat q (c 1 e z)), body_c n f q]
      obtain ⟨k1, k2⟩ := ih
      simp
      constructor
      · exact k1
      · omega
end T
namespace H
/-- The natural sum of what is there and w to the power of each branch. -/
def ordA : H → T → T
  | z, a => a
  | c k r, a => ordA r (T.nat a (.c 1 (ordA k .z) .z))
def ord (f : H) : T := ordA f .z
theorem ordA_app (d u : H) (a : T) : ordA (d.app u) a = ordA u (ordA d a) := by
  induction d generalizing a with
  | z => rfl
  | c k r _ ih => rw [app, ordA, ordA, ih]
theorem ord_snoc (d k : H) : ord (d.app (c k z)) = T.nat (ord d) (.c 1 (ord k) .z) := by rw [ord, ordA_app]; rfl
theorem ordA_nf : ∀ (f : H) (a : T), a.Nf → a.sumN + f.cnt ≤ 9999 → f.body.length ≤ 9000 → (ordA f a).Nf ∧ (ordA f a).sumN = a.sumN + f.cnt := by
  intro f
  induction f with
  | z => intro a h1 h2 h3; exact ⟨h1, by simp [ordA, cnt]⟩
  | c k r ihk ihr =>
    intro a h1 h2 h3
    have hk := cnt_le k
    have hl : (c k r).body.length = k.body.length + 1 + r.body.length := by rw [body_c, List.length_append, enc_len]
    have hc : ((c k r).cnt : Int) = (r.cnt : Int) + 1 := by simp [cnt]
    obtain ⟨q1, q2⟩ := ihk .z trivial (by simp only [T.sumN]; omega) (by omega)
    obtain ⟨p1, p2, _⟩ := T.nat_one_nf q1 a h1 (by omega)
    obtain ⟨s1, s2⟩ := ihr _ p1 (by omega) (by omega)
    exact ⟨s1, by rw [ordA, s2, p2]; omega⟩
theorem ord_nf {f : H} (h : f.body.length ≤ 9000) : (ord f).Nf := (ordA_nf f .z trivial (by have := cnt_le f; simp only [T.sumN]; omega) h).1
theorem ord_sum {f : H} (h : f.body.length ≤ 9000) : (ord f).sumN = f.cnt := by
  have h1 := (ordA_nf f .z trivial (by have := cnt_le f; simp only [T.sumN]; omega) h).2
  rw [ord, h1]; simp [T.sumN]
theorem ordA_len (f : H) (a : T) : a.body.length ≤ (ordA f a).body.length := by
  induction f generalizing a with
  | z => exact Nat.le_refl _
  | c k r _ ih => rw [ordA]; exact Nat.le_trans (T.nat_one_len _ a).1 (ih _)
theorem ordA_max (f : H) : ∀ a : T, (ordA f a).body.length ≤ a.body.length + 2 * f.body.length := by
  induction f with
  | z => intro a; simp [ordA]
  | c k r ihk ihr =>
    intro a
    have h1 := ihr (T.nat a (.c 1 (ordA k .z) .z))
    have h2 := T.nat_len a (.c 1 (ordA k .z) .z)
    have h3 := ihk .z
    have hl : (c k r).body.length = k.body.length + 1 + r.body.length := by rw [body_c, List.length_append, enc_len]
    have h4 : (T.c 1 (ordA k .z) .z).body.length = 2 + (ordA k .z).body.length := by rw [T.body_c]; simp [T.body, T.enc_len]; omega
    rw [ordA]
    simp only [T.body, List.length_nil] at h3
    omega
theorem ord_max (f : H) : (ord f).enc.length ≤ 1 + 2 * f.body.length := by
  have := ordA_max f .z
  rw [T.enc_len, ord]
  simp only [T.body, List.length_nil] at this
  omega
/-- The parts of an ordinal are no longer than it. -/
theorem ord_part {d k r f : H} (h : d.app (c k r) = f) : (ord (d.app (c k z))).body.length ≤ (ord f).body.length ∧ (ord d).body.length ≤ (ord (d.app (c k z))).body.length ∧ (ord k).body.length + 2 ≤ (ord (d.app (c k z))).body.length := by
  have h1 : f = (d.app (c k z)).app r := by rw [app_assoc]; exact h.symm
  refine ⟨?_, ?_, ?_⟩
  · rw [h1, ord, ord, ordA_app (d.app (c k z)) r]
    exact ordA_len _ _
  · rw [ord_snoc]; exact (T.nat_one_len _ _).1
  · rw [ord_snoc]
    have := (T.nat_one_len (ord k) (ord d)).2
    rw [T.body_c] at this
    simp [T.body, T.enc_len] at this
    omega

theorem vld_ord {f : H} (h : f.body.length ≤ 9000) : T.vldB (ord f).enc = decide ((ord f).enc.length ≤ 60) := by
  by_cases h1 : (ord f).enc.length ≤ 60
  · rw [T.vld_mk (ord_nf h) h1]; simp [h1]
  · have : T.vldB (ord f).enc = false := T.vldB_false.2 (fun h' => h1 h'.1)
    rw [this]; simp [h1]

/-- What the program reckons for one branch more. -/
theorem ord_step {d k r f : H} (h : d.app (c k r) = f) (hf : f.body.length ≤ 9000) :
    T.natRow (T.fit (ord d)) (T.powRow (T.fit (ord k))) = T.fit (ord (d.app (c k z))) ∧ T.natOk (T.fit (ord d)) (T.powRow (T.fit (ord k))) = T.vldB (ord (d.app (c k z))).enc := by
  have hfb : f.body.length = d.body.length + (k.body.length + 1 + r.body.length) := by rw [← h, app_body, List.length_append, body_c, List.length_append, enc_len]
  have hdk : (d.app (c k z)).body.length ≤ 9000 := by
    rw [app_body, List.length_append, body_c, List.length_append, enc_len]
    simp [body]; omega
  have vd := vld_ord (f := d) (by omega)
  have vk := vld_ord (f := k) (by omega)
  have vs := vld_ord hdk
  obtain ⟨_, p2, p3⟩ := ord_part h
  have e1 := T.enc_len (ord d)
  have e2 := T.enc_len (ord k)
  have e3 := T.enc_len (ord (d.app (c k z)))
  have hpn : (T.c 1 (ord k) .z).Nf := ⟨by omega, by omega, ord_nf (by omega), trivial, T.ok_z _⟩
  have e4 : (T.c 1 (ord k) .z).enc.length = 2 + (ord k).enc.length := by rw [T.enc_len, T.body_c]; simp [T.body]; omega
  have hnil : T.vldB [] = false := T.vldB_false.2 (by rintro ⟨_, t, h, _⟩; exact T.enc_ne t h.symm)
  by_cases hs : (ord (d.app (c k z))).enc.length ≤ 60
  · have wd : T.vldB (ord d).enc = true := by rw [vd]; simp; omega
    have wk : T.vldB (ord k).enc = true := by rw [vk]; simp; omega
    have wp : T.vldB (T.c 1 (ord k) .z).enc = true := T.vld_mk hpn (by omega)
    have f1 : T.fit (ord d) = (ord d).enc := by rw [T.fit, if_pos wd]
    have f2 : T.fit (ord k) = (ord k).enc := by rw [T.fit, if_pos wk]
    have f3 : T.powRow (ord k).enc = (T.c 1 (ord k) .z).enc := by rw [T.powRow, if_pos wk, T.of_enc, T.fit, if_pos wp]
    rw [f1, f2, f3]
    obtain ⟨q1, q2⟩ := T.natRow_val wd wp
    rw [q1, q2, T.of_enc, T.of_enc, ord_snoc]
    exact ⟨rfl, rfl⟩
  · have ws : T.vldB (ord (d.app (c k z))).enc = false := by rw [vs]; simp; omega
    have f0 : T.fit (ord (d.app (c k z))) = [] := by rw [T.fit, if_neg (by rw [ws]; simp)]
    rw [ws, f0]
    by_cases hd : (ord d).enc.length ≤ 60
    · have wd : T.vldB (ord d).enc = true := by rw [vd]; simp; omega
      have f1 : T.fit (ord d) = (ord d).enc := by rw [T.fit, if_pos wd]
      by_cases hk : (ord k).enc.length ≤ 60
      · have wk : T.vldB (ord k).enc = true := by rw [vk]; simp; omega
        have f2 : T.fit (ord k) = (ord k).enc := by rw [T.fit, if_pos wk]
        by_cases hp : (T.c 1 (ord k) .z).enc.length ≤ 60
        · have wp : T.vldB (T.c 1 (ord k) .z).enc = true := T.vld_mk hpn hp
          have f3 : T.powRow (ord k).enc = (T.c 1 (ord k) .z).enc := by rw [T.powRow, if_pos wk, T.of_enc, T.fit, if_pos wp]
          rw [f1, f2, f3]
          obtain ⟨q1, q2⟩ := T.natRow_val wd wp
          rw [q1, q2, T.of_enc, T.of_enc, ← ord_snoc]
          exact ⟨f0, ws⟩
        · have wp : T.vldB (T.c 1 (ord k) .z).enc = false := T.vldB_false.2 (fun h' => hp h'.1)
          have f3 : T.powRow (ord k).enc = [] := by rw [T.powRow, if_pos wk, T.of_enc, T.fit, if_neg (by rw [wp]; simp)]
          rw [f1, f2, f3]
          exact T.natRow_bad (.inr hnil)
      · have wk : T.vldB (ord k).enc = false := by rw [vk]; simp; omega
        have f2 : T.fit (ord k) = [] := by rw [T.fit, if_neg (by rw [wk]; simp)]
        have f3 : T.powRow [] = [] := by rw [T.powRow, if_neg (by rw [hnil]; simp)]
        rw [f2, f3]
        exact T.natRow_bad (.inr hnil)
    · have wd : T.vldB (ord d).enc = false := by rw [vd]; simp; omega
      have f1 : T.fit (ord d) = [] := by rw [T.fit, if_neg (by rw [wd]; simp)]
      rw [f1]
      exact T.natRow_bad (.inl hnil)

noncomputable def ordRow (xs : List Int) : List Int := if hvB xs = true then T.fit (ord (of xs)) else []
noncomputable def ordRowOk (xs : List Int) : Bool := hvB xs && T.vldB (ord (of xs)).enc
theorem ordRow_len (xs : List Int) : (ordRow xs).length ≤ 1000 := by
  unfold ordRow
  split
  · exact T.fit_len _
  · simp
end H
end Go.Proofs.Ytlbaelehmoidpaa
