/- Rows of trees: the model's l5Tree makes a tree out of its branches. -/
import Derived.Test.YtdcgcohfbcdnnaaHyd
import Derived.Test.YtdcgcohfbcdnnaaMake
namespace Go.Proofs.Ytdcgcohfbcdnnaa
set_option maxRecDepth 100000
open Go.RowKit

/-- The branches, as slices in memory. -/
def HC (w : World) : H → List Value → Prop
  | .z, es => es = []
  | .c k r, es => ∃ b off cap es', es = .slice (some ⟨b, off, none⟩) k.enc.length cap :: es' ∧ At w b off k.enc ∧ k.enc.length ≤ cap ∧ cap ≤ maxLen ∧ HC w r es'

theorem HC.snoc {w : World} {t : H} {es : List Value} {e : H} {b off cap : Nat} (h : HC w t es) (ha : At w b off e.enc) (hc : e.enc.length ≤ cap) (hm : cap ≤ maxLen) :
    HC w (t.app (.c e .z)) (es ++ [.slice (some ⟨b, off, none⟩) e.enc.length cap]) := by
  induction t generalizing es with
  | z => simp only [HC] at h; subst h; exact ⟨b, off, cap, [], rfl, ha, hc, hm, rfl⟩
  | c f r _ ih =>
    obtain ⟨b', off', cap', es', rfl, h1, h2, h3, h4⟩ := h
    exact ⟨b', off', cap', _, rfl, h1, h2, h3, ih h4⟩

theorem HC.below {w w' : World} {t : H} {es : List Value} (h : HC w t es) (hb : Below w.heap.size w w') : HC w' t es := by
  induction t generalizing es with
  | z => exact h
  | c f r _ ih =>
    obtain ⟨b', off', cap', es', rfl, h1, h2, h3, h4⟩ := h
    exact ⟨b', off', cap', _, rfl, h1.below hb (h1.lt (H.enc_ne f)), h2, h3, ih h4⟩

theorem HC.length {w : World} {t : H} {es : List Value} (h : HC w t es) : es.length = t.cnt := by
  induction t generalizing es with
  | z => simp only [HC] at h; subst h; rfl
  | c f r _ ih =>
    obtain ⟨b', off', cap', es', rfl, h1, h2, h3, h4⟩ := h
    simp [H.cnt, ih h4]

theorem HC.pick {w : World} {t d e r : H} {es : List Value} {k : Nat} (h : HC w t es) (h1 : d.app (.c e r) = t) (h2 : d.cnt = k) :
    ∃ b off cap, es[k]? = some (.slice (some ⟨b, off, none⟩) e.enc.length cap) ∧ At w b off e.enc ∧ e.enc.length ≤ cap ∧ cap ≤ maxLen := by
  induction d generalizing t es k with
  | z =>
    subst h1; subst h2
    obtain ⟨b', off', cap', es', rfl, h3, h4, h5, h6⟩ := h
    exact ⟨b', off', cap', rfl, h3, h4, h5⟩
  | c f q _ ih =>
    subst h1; subst h2
    obtain ⟨b', off', cap', es', rfl, h3, h4, h5, h6⟩ := h
    simp only [H.cnt, List.getElem?_cons_succ]
    exact ih h6 rfl rfl

/-- A slice of trees. -/
def Hs (w : World) (ao : Option Addr) (n : Nat) (f : H) : Prop :=
  n = f.cnt ∧ ∃ es, HC w f es ∧ (0 < n → ∃ g, ao = some ⟨g, 0, none⟩ ∧ g < w.heap.size ∧ ∀ j, j < n → w.cell? ⟨g, j, none⟩ = es[j]?)

theorem Hs.of_own {w : World} {B n cap : Nat} {ao : Option Addr} {f : H} {es : List Value} (h : w.ownsRow B 22 1 (.slice ao n cap) n es) (hT : HC w f es) (hn : n = f.cnt) : Hs w ao n f := by
  refine ⟨hn, es, hT, fun hp => ?_⟩
  obtain ⟨g, cap', hv⟩ := Joins.ownsRow_form h hp
  simp at hv
  obtain ⟨rfl, rfl⟩ := hv
  exact ⟨g, rfl, (h.lt g rfl).2, fun j hj => h.cellAt j (by omega)⟩

theorem Hs.below {w w' : World} {ao : Option Addr} {n : Nat} {f : H} (h : Hs w ao n f) (hb : Below w.heap.size w w') : Hs w' ao n f := by
  obtain ⟨h1, es, h2, h3⟩ := h
  refine ⟨h1, es, h2.below hb, fun hp => ?_⟩
  obtain ⟨g, h4, h5, h6⟩ := h3 hp
  exact ⟨g, h4, Nat.lt_of_lt_of_le h5 hb.size, fun j hj => (hb.cell (p := ⟨g, j, none⟩) h5).trans (h6 j hj)⟩

/-- A row of numbers that the call made. -/
def RowPost (w : World) (r : List Int) (e : Ending) (w' : World) : Prop :=
  ∃ a c, e = .returned (.slice a r.length c) ∧ w'.ownsRow w.heap.size 3 1 (.slice a r.length c) r.length (ints r) ∧ Below w.heap.size w w'

set_option maxHeartbeats 1000000 in
theorem l5Tree_any (ao : Option Addr) (n cap : Nat) (f : H) (w : World) (hl : f.enc.length ≤ 1000000000) (h : Hs w ao n f) :
    Calls Try.prog 71 #[.slice ao n cap] w (RowPost w f.enc) := by
  obtain ⟨hn, es, hT, hA⟩ := h
  obtain ⟨i0, hi, hz0, hz1, hz2⟩ := info_parts info_int
  have hel := H.enc_len f
  have hcb := H.cnt_le f
  have hnb : n ≤ 1000000000 := by omega
  have HN := Lib.hid hn
  have HA := Lib.hid hA
  have HL := Lib.hid hl
  have HE := Lib.hid hel
  clear hn hA hl hel hcb
  go_enter Try.func71, Try.ntmps71
  go_wp2_with fail
  go_loopw [3, 4] (fun v i wr => ∃ (k m : Nat) (d u : H), k ≤ n ∧ Hid (d.app u = f ∧ d.cnt = k ∧ m = 1 + d.body.length ∧ m + u.body.length = f.enc.length) ∧ i = .int .i64 k ∧ wr.ownsRow w.heap.size 3 1 v m (ints ((n : Int) :: d.body)) ∧ Below w.heap.size w wr) (fun _ i _ => n - (intOf i).toNat)
  case atStart => exact ⟨0, 1, .z, f, Nat.zero_le _, ⟨rfl, rfl, rfl, by have := HE.out; omega⟩, rfl, World.ownsRow_lit w _ 1 (Nat.le_refl _) (by simp [maxLen]) rfl, (Below.refl _ _).alloc (Nat.le_refl _) _⟩
  case round =>
    obtain ⟨k, m, d, u, hk, HU, rfl, ho, hbel⟩ := hrel
    obtain ⟨h1, h2, h3, h4⟩ := HU.out
    have hct : f.cnt = k + u.cnt := by rw [← h1, H.app_cnt, h2]
    by_cases hlt : k < n
    · obtain ⟨e, r, rfl⟩ : ∃ e r, u = .c e r := H.cnt_pos (by have := HN.out; omega)
      obtain ⟨g, rfl, hgl, hcs⟩ := HA.out (by omega)
      obtain ⟨be, oe, ce, p1, p3, p4, p5⟩ := hT.pick h1 h2
      have x1 : wr.cell? ⟨g, k, none⟩ = some (.slice (some ⟨be, oe, none⟩) e.enc.length ce) := (hbel.cell (p := ⟨g, k, none⟩) hgl).trans (by rw [hcs _ (by omega)]; exact p1)
      have hate : At wr be oe e.enc := p3.below hbel (p3.lt (H.enc_ne e))
      have Hate := Lib.hid hate
      have Hbel := Lib.hid hbel
      have hsz := hbel.size
      have hee := H.enc_len e
      have hbody : (H.c e r).body.length = e.enc.length + r.body.length := by rw [H.body_c]; simp
      have hm : m + e.enc.length + r.body.length = f.enc.length := by rw [hbody] at h4; omega
      have hmb : m + e.enc.length ≤ 1000000000 := by have := HL.out; omega
      have Hm := Lib.hid hm
      clear h1 h2 h3 h4 hct p1 p3 hate hbel hcs hee hbody hm
      go_wp2_with (first
        | (at_builtin; refine wpList_append_own _ rfl (.tmp 14) (.tmp 18) 22 rfl w.heap.size 3 i0 (.int .i64 0) 1 8 Try.underlying22 hi hz0 hz1 hz2 rfl (by decide) _ _ _ rfl ho ⟨be, oe, none⟩ e.enc.length ce (ints e.enc) rfl (by rw [ints_len, Nat.mul_one]) (At.news Hate.out) (ints_one _) (by unfold maxLen; omega) (by omega) (by omega) ?_; intro v2' w2 ho2' hg2 _))
      go_roundw
      case rel =>
        have h6 := HU.out
        have hb2 := Hbel.out.grown hg2 (by omega) (fun k hk => (ho.lt k hk).1)
        refine ⟨k + 1, m + e.enc.length, d.app (.c e .z), r, by omega, ⟨?_, ?_, ?_, Hm.out⟩, by go_num, ?_, hb2⟩
        · rw [H.app_assoc]; exact h6.1
        · rw [H.app_cnt, h6.2.1]; rfl
        · rw [H.app_body, H.body_c]; simp [H.body]; omega
        · have e1 : ints ((n : Int) :: (d.app (.c e .z)).body) = ints ((n : Int) :: d.body) ++ ints e.enc := by
            rw [H.app_body, H.body_c]; simp [ints, H.body]
          rw [e1]
          exact ho2'
      case measure => simp [intOf]; omega
    · have hu : u = .z := H.cnt_zero (by have := HN.out; omega)
      subst hu
      have hdt : d = f := by rw [H.app_z] at h1; exact h1
      subst hdt
      have hmd : m = d.enc.length := by simpa [H.body] using h4
      subst hmd
      obtain ⟨a', c', rfl, _⟩ := own_form ho
      have Ho := Lib.hid ho
      have hnk : n ≤ k := by omega
      clear h1 h2 h3 h4 hct ho
      go_wp2_with fail
      go_ret
      exact ⟨a', c', rfl, by have := Ho.out; rw [HN.out] at this; exact this, hbel⟩

end Go.Proofs.Ytdcgcohfbcdnnaa
