/- Reading terms off their cells. -/
import Derived.Test.YtdcgcohfbcdnnaaTermsOf
import Derived.StillTailTactics
namespace Go.Proofs.Ytdcgcohfbcdnnaa
set_option maxRecDepth 100000
open Go.RowKit

theorem ownsRow_below {w w' : World} {B B' e n size : Nat} {v : Value} {xs : List Value} (h : w.ownsRow B e size v n xs) (hb : Below B' w w') (hB : ∀ k, v.ownBlock = some k → k < B') : w'.ownsRow B e size v n xs := by
  refine ⟨h.1, ?_⟩
  rcases h.2 with hn | ⟨g, cap, cur, rfl, hbg, hg, rest⟩
  · exact .inl hn
  · exact .inr ⟨g, cap, cur, rfl, hbg, by rw [hb.block g (hB g rfl)]; exact hg, rest⟩

theorem ownsRow_below' {w w' : World} {B e n size : Nat} {v : Value} {xs : List Value} (h : w.ownsRow B e size v n xs) (hb : Below w.heap.size w w') : w'.ownsRow B e size v n xs :=
  ownsRow_below h hb (fun k hk => (h.lt k hk).2)

/-- The terms from one of them on. -/
theorem TC.pick {w : World} {t : T} {cs : List Value} {k : Nat} {n : Int} {e r : T} {d : T} (h : TC w t cs) (hd : d.app (.c n e r) = t) (hk : d.cnt = k) :
    ∃ b off cap, cs[2 * k]? = some (.int .i64 n) ∧ cs[2 * k + 1]? = some (.slice (some ⟨b, off, none⟩) e.enc.length cap) ∧ At w b off e.enc ∧ e.enc.length ≤ cap ∧ cap ≤ maxLen := by
  induction d generalizing t cs k with
  | z =>
    subst hk
    simp only [T.app] at hd
    subst hd
    obtain ⟨b, off, cap, cs', rfl, h1, h2, h3, h4⟩ := h
    exact ⟨b, off, cap, by simp [T.cnt], by simp [T.cnt], h1, h2, h3⟩
  | c m f q _ ih =>
    subst hk
    simp only [T.app] at hd
    subst hd
    obtain ⟨b, off, cap, cs', rfl, h1, h2, h3, h4⟩ := h
    obtain ⟨b', off', cap', h5, h6, h7⟩ := ih h4 rfl rfl
    refine ⟨b', off', cap', ?_, ?_, h7⟩
    · rw [show 2 * (T.c m f q).cnt = 2 * q.cnt + 2 by simp [T.cnt]; omega]; simpa using h5
    · rw [show 2 * (T.c m f q).cnt + 1 = 2 * q.cnt + 1 + 2 by simp [T.cnt]; omega]; simpa using h6

theorem EC.pick {w : World} {t : T} {es : List Value} {k : Nat} {n : Int} {e r : T} {d : T} (h : EC w t es) (hd : d.app (.c n e r) = t) (hk : d.cnt = k) :
    ∃ b off cap, es[k]? = some (.slice (some ⟨b, off, none⟩) e.enc.length cap) ∧ At w b off e.enc ∧ e.enc.length ≤ cap ∧ cap ≤ maxLen := by
  induction d generalizing t es k with
  | z =>
    subst hk
    simp only [T.app] at hd
    subst hd
    obtain ⟨b, off, cap, cs', rfl, h1, h2, h3, h4⟩ := h
    exact ⟨b, off, cap, by simp [T.cnt], h1, h2, h3⟩
  | c m f q _ ih =>
    subst hk
    simp only [T.app] at hd
    subst hd
    obtain ⟨b, off, cap, cs', rfl, h1, h2, h3, h4⟩ := h
    obtain ⟨b', off', cap', h6, h7⟩ := ih h4 rfl rfl
    refine ⟨b', off', cap', ?_, h7⟩
    rw [show (T.c m f q).cnt = q.cnt + 1 by simp [T.cnt]]; simpa using h6

theorem T.times_pick {t d : T} {k : Nat} {n : Int} {e r : T} (hd : d.app (.c n e r) = t) (hk : d.cnt = k) : t.times[k]? = some n := by
  subst hk
  subst hd
  rw [T.times_app, List.getElem?_append_right (by rw [T.times_len]; exact Nat.le_refl _), T.times_len, Nat.sub_self]
  rfl

theorem T.cmp_len (s t : T) (h : s = .z ∨ t = .z) : s.cmp t = if s.cnt < t.cnt then -1 else if t.cnt < s.cnt then 1 else 0 := by
  rcases h with rfl | rfl
  · cases t <;> simp [T.cmp, T.cnt]
  · cases s <;> simp [T.cmp, T.cnt]

end Go.Proofs.Ytdcgcohfbcdnnaa
