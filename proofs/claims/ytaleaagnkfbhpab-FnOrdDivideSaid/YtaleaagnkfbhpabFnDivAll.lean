/- FnDivAll: one text out of Div, DivI, DivJ, DivS, DivM, MulJ, DrawD, LFnOrdDivide. -/
import Derived.Test.YtaleaagnkfbhpabMin
import Derived.Test.YtaleaagnkfbhpabMul
import Derived.Test.YtaleaagnkfbhpabMinI
import Derived.Test.YtaleaagnkfbhpabMulS
import Derived.Deep.DeepCutAuto
import Derived.Deep.CutBlock
import Derived.Test.YtaleaagnkfbhpabMinT
import Derived.Test.YtaleaagnkfbhpabMulM
import Derived.Test.YtaleaagnkfbhpabMulI
import Derived.Deep.LoopGhost
import Derived.Deep.RegionHeld3
import Derived.Test.YtaleaagnkfbhpabDraw1
import Derived.Test.YtaleaagnkfbhpabAddT
import Derived.Test.YtaleaagnkfbhpabFn1
/- Div -/
/- Quotients and what is left, on trees and on rows. -/
namespace Go.Proofs.Ytaleaagnkfbhpab
namespace T

/-- How often m times w to the power of f, and b behind it, is in terms of which no exponent is greater than f. -/
def timesN (m : Int) (f b : T) : T → Int
  | z => 0
  | c n e r => if e.cmp f = 0 then (if 0 < n / m ∧ (c (m * (n / m)) f b).cmp (c n e r) = 1 then n / m - 1 else n / m) else 0
def quo (m : Int) (f b : T) : T → T
  | z => z
  | c n e r => if e.cmp f = 1 then c n (minus e f) (quo m f b r) else if 0 < timesN m f b (c n e r) then c (timesN m f b (c n e r)) z z else z
def rem (m : Int) (f b : T) : T → T
  | z => z
  | c n e r => if e.cmp f = 1 then rem m f b r else if 0 < timesN m f b (c n e r) then minus (c n e r) (c (m * timesN m f b (c n e r)) f b) else c n e r

theorem quo_more {m n : Int} {f b e : T} (r : T) (h : e.cmp f = 1) : quo m f b (c n e r) = c n (minus e f) (quo m f b r) ∧ rem m f b (c n e r) = rem m f b r := ⟨by rw [quo, if_pos h], by rw [rem, if_pos h]⟩
/-- Behind the terms of greater exponents. -/
def Low (f : T) (u : T) : Prop := ∀ n e r, u = c n e r → e.cmp f ≠ 1
theorem quo_low {m : Int} {f b u : T} (h : Low f u) : (quo m f b u = if 0 < timesN m f b u then c (timesN m f b u) z z else z) ∧ (rem m f b u = if 0 < timesN m f b u then minus u (c (m * timesN m f b u) f b) else u) := by
  cases u with
  | z => exact ⟨by rw [timesN]; rfl, by rw [timesN]; rfl⟩
  | c n e r => exact ⟨by rw [quo, if_neg (h n e r rfl)], by rw [rem, if_neg (h n e r rfl)]⟩

theorem div_le {n m : Int} (hm : 1 ≤ m) (hn : 0 ≤ n) : 0 ≤ n / m ∧ n / m ≤ n ∧ m * (n / m) ≤ n := by
  have h1 : 0 ≤ n / m := Int.ediv_nonneg hn (by omega)
  have h2 : m * (n / m) ≤ n := Int.mul_ediv_self_le (by omega)
  have h3 : 1 * (n / m) ≤ m * (n / m) := Int.mul_le_mul_of_nonneg_right hm h1
  exact ⟨h1, by omega, h2⟩

/-- So often it is not more. -/
theorem timesN_spec {m : Int} {f b u : T} (hm : 1 ≤ m) (hu : u.Nf) : 0 ≤ timesN m f b u ∧ timesN m f b u ≤ 9999 ∧ (0 < timesN m f b u → 1 ≤ m * timesN m f b u ∧ m * timesN m f b u ≤ 9999 ∧ u.cmp (c (m * timesN m f b u) f b) ≠ -1) := by
  cases u with
  | z => rw [timesN]; exact ⟨by omega, by omega, fun h => by omega⟩
  | c n e r =>
    have hn := hu.1
    have hn2 := hu.2.1
    obtain ⟨h1, h2, h3⟩ := div_le (n := n) hm (by omega)
    by_cases he : e.cmp f = 0
    · have hef := cmp_eq he
      subst hef
      rw [timesN, if_pos he]
      obtain ⟨N, hN⟩ : ∃ N, N = n / m := ⟨_, rfl⟩
      rw [← hN] at h1 h2 h3 ⊢
      by_cases hc : 0 < N ∧ (c (m * N) e b).cmp (c n e r) = 1
      · rw [if_pos hc]
        have h4 : m * (N - 1) = m * N - m := by rw [Int.mul_sub, Int.mul_one]
        refine ⟨by omega, by omega, fun h => ?_⟩
        have h5 : m * 1 ≤ m * (N - 1) := Int.mul_le_mul_of_nonneg_left (by omega) (by omega)
        refine ⟨by omega, by omega, ?_⟩
        rw [cmp_more _ _ _ (by omega)]
        decide
      · rw [if_neg hc]
        refine ⟨h1, by omega, fun h => ?_⟩
        have h5 : m * 1 ≤ m * N := Int.mul_le_mul_of_nonneg_left (by omega) (by omega)
        refine ⟨by omega, by omega, ?_⟩
        intro h6
        have h7 := cmp_swap (c n e r) (c (m * N) e b)
        exact hc ⟨h, by omega⟩
    · rw [timesN, if_neg he]
      exact ⟨by omega, by omega, fun h => by omega⟩

theorem minus_back {e f : T} (he : e.Nf) (hf : f.Nf) (h : e.cmp f = 1) : (minus e f).Nf ∧ add f (minus e f) = e ∧ minus e f ≠ z := by
  obtain ⟨h1, _, h3⟩ := minus_spec e f he hf (by omega)
  refine ⟨h1, h3, fun hz => ?_⟩
  rw [hz, add_z] at h3
  subst h3
  rw [cmp_refl] at h
  omega
theorem minus_mono {e e' f : T} (he : e.Nf) (he' : e'.Nf) (hf : f.Nf) (h : e.cmp f = 1) (h' : e'.cmp f = 1) : (minus e' f).cmp (minus e f) = e'.cmp e := by
  obtain ⟨a1, a2, _⟩ := minus_back he hf h
  obtain ⟨b1, b2, _⟩ := minus_back he' hf h'
  have h1 := add_mono f (minus e f) (minus e' f) (nf_pos hf) (nf_pos a1) (nf_pos b1)
  rw [a2, b2] at h1
  exact h1.symm
theorem z_lt {t : T} (h : t ≠ z) : (z : T).cmp t = -1 := by
  cases t with
  | z => exact absurd rfl h
  | c n e r => rfl

theorem quo_nf {m : Int} {f b : T} (hm : 1 ≤ m) (hf : f.Nf) : ∀ s : T, s.Nf → (quo m f b s).Nf ∧ ∀ e : T, e.Nf → e.cmp f = 1 → ok (some e) s → ok (some (minus e f)) (quo m f b s) := by
  intro s
  induction s with
  | z => intro _; exact ⟨trivial, fun _ _ _ _ => ok_z _⟩
  | c n e r _ ih =>
    intro hs
    by_cases h : e.cmp f = 1
    · obtain ⟨i1, i2⟩ := ih hs.2.2.2.1
      rw [(quo_more r h).1]
      refine ⟨⟨hs.1, hs.2.1, (minus_back hs.2.2.1 hf h).1, i1, i2 e hs.2.2.1 h hs.2.2.2.2⟩, fun e' he' h' ho => ?_⟩
      rw [ok_c, minus_mono he' hs.2.2.1 hf h' h]
      exact ok_c.1 ho
    · have hlow : Low f (c n e r) := fun n' e' r' hh => by cases hh; exact h
      rw [(quo_low hlow).1]
      obtain ⟨t1, t2, t3⟩ := timesN_spec (m := m) (f := f) (b := b) hm hs
      by_cases hN : 0 < timesN m f b (c n e r)
      · rw [if_pos hN]
        refine ⟨⟨by omega, t2, trivial, trivial, ok_z _⟩, fun e' he' h' _ => ?_⟩
        rw [ok_c]
        exact z_lt (minus_back he' hf h').2.2
      · rw [if_neg hN]
        exact ⟨trivial, fun _ _ _ _ => ok_z _⟩
theorem quo_len {m : Int} {f b : T} : ∀ s : T, (quo m f b s).body.length ≤ s.body.length := by
  intro s
  induction s with
  | z => exact Nat.le_refl _
  | c n e r _ ih =>
    by_cases h : e.cmp f = 1
    · rw [(quo_more r h).1, body_c, body_c]
      have h1 := minus_len e f
      have h2 := enc_len (minus e f)
      have h3 := enc_len e
      simp only [List.length_cons, List.length_append]
      omega
    · have hlow : Low f (c n e r) := fun n' e' r' hh => by cases hh; exact h
      rw [(quo_low hlow).1, body_c]
      have h3 := enc_len e
      split
      · simp only [body_c, List.length_cons, List.length_append]
        have : (z : T).enc.length = 1 := rfl
        have : (z : T).body.length = 0 := rfl
        omega
      · simp [body]
theorem rem_nf {m : Int} {f b : T} (ht : (c m f b).Nf) : ∀ s : T, s.Nf → (rem m f b s).Nf ∧ (rem m f b s).body.length ≤ s.body.length := by
  intro s
  induction s with
  | z => intro _; exact ⟨trivial, Nat.le_refl _⟩
  | c n e r _ ih =>
    intro hs
    by_cases h : e.cmp f = 1
    · obtain ⟨i1, i2⟩ := ih hs.2.2.2.1
      rw [(quo_more r h).2]
      refine ⟨i1, ?_⟩
      rw [body_c]
      simp only [List.length_cons, List.length_append]
      omega
    · have hlow : Low f (c n e r) := fun n' e' r' hh => by cases hh; exact h
      rw [(quo_low hlow).2]
      obtain ⟨t1, t2, t3⟩ := timesN_spec (m := m) (f := f) (b := b) ht.1 hs
      by_cases hN : 0 < timesN m f b (c n e r)
      · rw [if_pos hN]
        obtain ⟨u1, u2, u3⟩ := t3 hN
        have ht' : (c (m * timesN m f b (c n e r)) f b).Nf := ⟨u1, u2, ht.2.2.1, ht.2.2.2.1, ht.2.2.2.2⟩
        exact ⟨(minus_spec _ _ hs ht' u3).1, minus_len _ _⟩
      · rw [if_neg hN]
        exact ⟨hs, Nat.le_refl _⟩

noncomputable def divOk (xs ys : List Int) : Bool := vldB xs && vldB ys && decide (0 < (of ys).cnt)
noncomputable def quoRow (xs ys : List Int) : List Int := match of ys with
  | z => []
  | c m f b => if vldB xs = true ∧ vldB ys = true then (quo m f b (of xs)).enc else []
noncomputable def remRow (xs ys : List Int) : List Int := match of ys with
  | z => []
  | c m f b => if vldB xs = true ∧ vldB ys = true then (rem m f b (of xs)).enc else []
theorem div_bad {xs ys : List Int} (h : vldB xs = false ∨ vldB ys = false ∨ of ys = z) : quoRow xs ys = [] ∧ remRow xs ys = [] ∧ divOk xs ys = false := by
  by_cases hz : of ys = z
  · exact ⟨by rw [quoRow, hz], by rw [remRow, hz], by rw [divOk, hz]; exact Bool.and_false _⟩
  · have h1 : ¬ (vldB xs = true ∧ vldB ys = true) := by
      rintro ⟨h1, h2⟩
      rcases h with h | h | h
      · rw [h1] at h; cases h
      · rw [h2] at h; cases h
      · exact hz h
    refine ⟨?_, ?_, ?_⟩
    · rw [quoRow]; split
      · rfl
      · rw [if_neg h1]
    · rw [remRow]; split
      · rfl
      · rw [if_neg h1]
    · rw [divOk]
      rcases h with h | h | h
      · rw [h]; rfl
      · rw [h, Bool.and_false, Bool.false_and]
      · exact absurd h hz
theorem div_good {xs ys : List Int} {m : Int} {f b : T} (h1 : vldB xs = true) (h2 : vldB ys = true) (h : of ys = c m f b) : quoRow xs ys = (quo m f b (of xs)).enc ∧ remRow xs ys = (rem m f b (of xs)).enc ∧ divOk xs ys = true := by
  refine ⟨by rw [quoRow, h]; exact if_pos ⟨h1, h2⟩, by rw [remRow, h]; exact if_pos ⟨h1, h2⟩, ?_⟩
  rw [divOk, h1, h2, h, decide_eq_true (by simp [cnt])]; rfl
theorem div_vld {s : T} {m : Int} {f b : T} (hs : s.Nf) (hl : s.enc.length ≤ 60) (ht : (c m f b).Nf) : vldB (quo m f b s).enc = true ∧ vldB (rem m f b s).enc = true := by
  have h1 := enc_len s
  have h2 := enc_len (quo m f b s)
  have h3 := enc_len (rem m f b s)
  have h4 := quo_len (m := m) (f := f) (b := b) s
  obtain ⟨h5, h6⟩ := rem_nf ht s hs
  exact ⟨vldB_true.2 ⟨by omega, _, rfl, (quo_nf ht.1 ht.2.2.1 s hs).1⟩, vldB_true.2 ⟨by omega, _, rfl, h5⟩⟩
theorem div_len (xs ys : List Int) : (quoRow xs ys).length ≤ 1000 ∧ (remRow xs ys).length ≤ 1000 := by
  by_cases h : vldB xs = true ∧ vldB ys = true
  · cases hy : of ys with
    | z => obtain ⟨a, b, _⟩ := div_bad (xs := xs) (ys := ys) (.inr (.inr hy)); rw [a, b]; simp
    | c m f b =>
      obtain ⟨a, b', _⟩ := div_good h.1 h.2 hy
      have h1 := nf_of h.2
      rw [hy] at h1
      obtain ⟨h2, h3⟩ := div_vld (nf_of h.1) (by rw [enc_of h.1]; exact (vldB_true.1 h.1).1) h1
      rw [a, b']
      have := (vldB_true.1 h2).1
      have := (vldB_true.1 h3).1
      omega
  · have hb : vldB xs = false ∨ vldB ys = false := by
      cases h1 : vldB xs with
      | false => exact .inl rfl
      | true => cases h2 : vldB ys with
        | false => exact .inr rfl
        | true => exact absurd ⟨h1, h2⟩ h
    obtain ⟨a, b, _⟩ := div_bad (xs := xs) (ys := ys) (by rcases hb with h | h; exact .inl h; exact .inr (.inl h))
    rw [a, b]; simp

end T
end Go.Proofs.Ytaleaagnkfbhpab

/- DivI -/
/- The program's quotients. -/
namespace Go.Proofs.Ytaleaagnkfbhpab
open Go.RowKit

theorem Rw.tmo {w : World} {b o n c : Nat} {t : T} {l : List Value} (h : Rw w b o n c t l) : Tmo w (some ⟨b, o, none⟩) n t :=
  ⟨h.1, l, h.2.2.2.1, fun _ => ⟨b, o, rfl, h.2.2.2.2.1, h.2.2.2.2.2⟩⟩

theorem Tmo.below {w w' : World} {a : Option Addr} {n : Nat} {t : T} (h : Tmo w a n t) (hb : Below w.heap.size w w') : Tmo w' a n t := by
  obtain ⟨h1, cs, h2, h3⟩ := h
  refine ⟨h1, cs, h2.below hb, fun hp => ?_⟩
  obtain ⟨g, o, h4, h5, h6⟩ := h3 hp
  exact ⟨g, o, h4, Nat.lt_of_lt_of_le h5 hb.size, fun j u hj => (hb.cell (p := ⟨g, o + j, none⟩) h5).trans (h6 j u hj)⟩

/-- A row of the call's own, as it is read. -/
theorem own_row {w : World} {B c : Nat} {a : Option Addr} {t : T} (h : w.ownsRow B 3 1 (.slice a t.enc.length c) t.enc.length (ints t.enc)) :
    ∃ g, a = some ⟨g, 0, none⟩ ∧ B ≤ g ∧ At w g 0 t.enc ∧ t.enc.length ≤ c ∧ c ≤ maxLen := by
  have hs := Sl.of_own h
  obtain ⟨b, o, he, hat⟩ := hs.2.2.2 (by rw [T.enc_len]; omega)
  obtain ⟨g, cap, hf⟩ := Joins.ownsRow_form h (by rw [T.enc_len]; omega)
  simp only [Value.slice.injEq] at hf
  obtain ⟨rfl, _, rfl⟩ := hf
  simp only [Option.some.injEq, Addr.mk.injEq, and_true] at he
  obtain ⟨rfl, rfl⟩ := he
  exact ⟨g, rfl, (h.lt g rfl).1, hat, hs.2.1, hs.2.2.1⟩

set_option maxRecDepth 100000 in
set_option maxHeartbeats 4000000 in
theorem timesIn_any (b1 o1 n1 k1 g2 n2 c2 : Nat) (s : T) (m : Int) (f b : T) (l ds : List Value) (w : World) (h1 : Rw w b1 o1 n1 k1 s l) (h2 : Tz w g2 n2 c2 (.c m f b) ds) (hs : s.Nf) (ht : (T.c m f b).Nf)
    (hl1 : s.enc.length ≤ 1000) (hl2 : (T.c m f b).enc.length ≤ 1000) :
    Calls Try.prog 52 #[.slice (some ⟨b1, o1, none⟩) n1 k1, .slice (some ⟨g2, 0, none⟩) n2 c2] w fun e w' => e = .returned (.int .i64 (T.timesN m f b s)) ∧ Below w.heap.size w w' := by
  cases s with
  | z =>
    have hn : n1 = 0 := h1.1
    subst hn
    have hR : T.timesN m f b .z = 0 := by rw [T.timesN]
    rw [hR]
    clear h1 h2 hR
    go_enter Try.func52, Try.ntmps52
    go_wp2_with fail
    go_quiet (fail)
    go_wp2_with fail
    go_ret
    exact ⟨rfl, Joins.below_draws _ _ _⟩
  | c n e r =>
    have hn1 : n1 ≤ 1000 := by have h3 := h1.1; have := T.cnt_le (T.c n e r); have := T.enc_len (T.c n e r); omega
    have hn2 : n2 ≤ 1000 := by have h3 := h2.1; have := T.cnt_le (T.c m f b); have := T.enc_len (T.c m f b); omega
    have hp1 : 0 < n1 := by have h3 := h1.1; simp only [T.cnt] at h3; omega
    have hp2 : 0 < n2 := by have h3 := h2.1; simp only [T.cnt] at h3; omega
    have hq : ((n1 : Int) == 0) = false := by simp; omega
    have hp3 : (0 : Int) < (n1 : Int) := by omega
    have hp4 : (0 : Int) < (n2 : Int) := by omega
    have Htmo := Lib.hid h1.tmo
    have H2 := Lib.hid h2
    have hb1 := h1.2.2.2.2.1
    have hb2 := h2.2.2.2.2.1
    have x0 : w.cell? ⟨b1, o1, none⟩ = some (.int .i64 n) := by obtain ⟨be, oe, ce, l', hl', _⟩ := h1.2.2.2.1; exact h1.2.2.2.2.2 0 _ (by rw [hl']; rfl)
    obtain ⟨be, oe, ce, l', hl', hate, hce, hcem, _⟩ := h1.2.2.2.1
    have x1 : w.cell? ⟨b1, o1 + 1, none⟩ = some (.slice (some ⟨be, oe, none⟩) e.enc.length ce) := h1.2.2.2.2.2 1 _ (by rw [hl']; rfl)
    obtain ⟨bf, of, cf, ds', rfl, hatf, hcf, hcfm, hTb⟩ := h2.2.2.2.1
    have y0 : w.cell? ⟨g2, 0, none⟩ = some (.int .i64 m) := h2.2.2.2.2.2 0 (by omega)
    have y1 : w.cell? ⟨g2, 1, none⟩ = some (.slice (some ⟨bf, of, none⟩) f.enc.length cf) := h2.2.2.2.2.2 1 (by omega)
    have hel : e.enc.length ≤ 1000 := by have h3 := T.enc_len (T.c n e r); rw [T.body_c, List.length_cons, List.length_append] at h3; omega
    have Hmb := Lib.hid (show 1 ≤ m ∧ m ≤ 9999 from ⟨ht.1, ht.2.1⟩)
    have Hnb := Lib.hid (show 1 ≤ n ∧ n ≤ 9999 from ⟨hs.1, hs.2.1⟩)
    have HTb := Lib.hid hTb
    have Hatf := Lib.hid hatf
    have ke := Lib.hid (slicesEqual_any (some ⟨be, oe, none⟩) (some ⟨bf, of, none⟩) e.enc.length ce f.enc.length cf e.enc f.enc w.drew (by omega)
      ⟨rfl, hce, hcem, fun _ => ⟨be, oe, rfl, hate.below (Below.refl _ _).drew (hate.lt (T.enc_ne e))⟩⟩ ⟨rfl, hcf, hcfm, fun _ => ⟨bf, of, rfl, hatf.below (Below.refl _ _).drew (hatf.lt (T.enc_ne f))⟩⟩)
    clear h1 h2 hs ht hate hatf hl' hTb
    by_cases hef : e.cmp f = 0
    · have hefq := T.cmp_eq hef
      subst hefq
      rw [eqB_refl] at ke
      obtain ⟨N, hN⟩ : ∃ N, N = n / m := ⟨_, rfl⟩
      obtain ⟨hN0, hN1, hN2⟩ := T.div_le (n := n) (m := m) Hmb.out.1 (by have := Hnb.out.1; omega)
      rw [← hN] at hN0 hN1 hN2
      have hR : T.timesN m e b (.c n e r) = if 0 < N ∧ (T.c (m * N) e b).cmp (.c n e r) = 1 then N - 1 else N := by rw [T.timesN, if_pos (T.cmp_refl e), hN]
      have HR := Lib.hid hR
      have hm0 : ¬ m = 0 := by have := Hmb.out.1; omega
      have hmz : (m == 0) = false := by simpa using hm0
      have hq1 : n.tdiv m = N := by rw [hN]; exact Int.tdiv_eq_ediv_of_nonneg (by have := Hnb.out.1; omega)
      have hNb : N ≤ 9999 := by have := Hnb.out.2; omega
      have hq2 : IntKind.i64.wrap N = N := IntWalk.i64_in _ (by omega)
      clear hef hN hR
      go_enter Try.func52, Try.ntmps52
      go_wp2_with fail
      go_still_tail 12, (by kernel_rfl)
      change wpList _ _ _ _ _ w.drew
      go_wp2_with fail
      refine (ke.out).mono ?_
      rintro ee w1 ⟨rfl, hb1'⟩
      have hbw : Below w.heap.size w w1 := ((Below.refl w.heap.size w).drew).trans hb1'
      have x0' : w1.cell? ⟨b1, o1, none⟩ = some (.int .i64 n) := (hbw.cell (p := ⟨b1, o1, none⟩) hb1).trans x0
      have y0' : w1.cell? ⟨g2, 0, none⟩ = some (.int .i64 m) := (hbw.cell (p := ⟨g2, 0, none⟩) hb2).trans y0
      have Hbw := Lib.hid hbw
      clear hb1' hbw x0 y0 x1 y1
      by_cases hNp : 0 < N
      · go_wp2_with fail
        go_quiet (fail)
        generalize hwq : w1.drewN _ = wq
        have hbq : Below w1.heap.size w1 wq := by rw [← hwq]; exact Joins.below_draws _ _ _
        have Hbq := Lib.hid (Hbw.out.trans (hbq.mono Hbw.out.size))
        have H2q := Lib.hid (H2.out.below Hbq.out)
        have kn := Lib.hid (timesNumber_any g2 n2 c2 bf of cf m N e b ds' wq H2q.out (by omega) (by have h9 : 0 ≤ m * N := Int.mul_nonneg (by have := Hmb.out.1; omega) hN0; omega) (by have := Hnb.out.2; omega))
        clear hwq hbq x0' y0'
        go_wp2_with fail
        refine (kn.out).mono ?_
        rintro ee w2 ⟨g3, c3, rfl, ho3, hb3⟩
        have hbq2 := Hbq.out.trans (hb3.mono Hbq.out.size)
        have hTC : TC w2 (.c (m * N) e b) (.int .i64 (m * N) :: .slice (some ⟨bf, of, none⟩) e.enc.length cf :: ds') := ⟨bf, of, cf, ds', rfl, Hatf.out.below hbq2 (Hatf.out.lt (T.enc_ne e)), hcf, hcfm, HTb.out.below hbq2⟩
        have htm := Tm.of_own ho3 hTC (by have := H2.out.1; simpa [T.cnt] using this)
        obtain ⟨tt, htt⟩ : ∃ tt, tt = T.c (m * N) e b := ⟨_, rfl⟩
        have htl : tt.enc.length ≤ 1000 := by rw [htt]; have h3 := hl2; rw [T.enc_len, T.body_c] at h3 ⊢; simpa using h3
        rw [← htt] at htm
        have k4 := Lib.hid (ordOfTerms_any (some ⟨g3, 0, none⟩) n2 c3 tt w2 (by omega) htm)
        have Hbq2 := Lib.hid hbq2
        have Htt := Lib.hid htt
        clear ho3 hb3 hbq2 hTC htm htt
        go_wp2_with fail
        refine (k4.out).mono ?_
        rintro ee w3 ⟨a4, c4, rfl, ho4, hb4⟩
        obtain ⟨g4, rfl, hg4, hat4, hc4, hm4⟩ := own_row ho4
        have Hb3 := Lib.hid (Hbq2.out.trans (hb4.mono Hbq2.out.size))
        have Hat4 := Lib.hid hat4
        have k5 := Lib.hid (ordOfTerms_at (some ⟨b1, o1, none⟩) n1 k1 (.c n e r) w3 (by omega) (Htmo.out.below Hb3.out))
        clear ho4 hb4 hat4
        go_wp2_with fail
        refine (k5.out).mono ?_
        rintro ee w4 ⟨a5, c5, rfl, ho5, hb5⟩
        obtain ⟨g5, rfl, hg5, hat5, hc5, hm5⟩ := own_row ho5
        have Hb4 := Lib.hid (Hb3.out.trans (hb5.mono Hb3.out.size))
        have k6 := Lib.hid (compareOrds_any (tt.body.length + 1) g4 0 c4 g5 0 c5 tt.enc.length (T.c n e r).enc.length tt (.c n e r) w4 (by omega) rfl rfl (by omega) (by omega) hc4 hm4 hc5 hm5 (Hat4.out.below hb5 (Hat4.out.lt (T.enc_ne tt))) hat5)
        obtain ⟨cv, hcv⟩ : ∃ cv, cv = tt.cmp (.c n e r) := ⟨_, rfl⟩
        rw [← hcv] at k6
        have Hcv := Lib.hid hcv
        clear ho5 hb5 hat5 hcv
        go_wp2_with fail
        refine (k6.out).mono ?_
        rintro ee w5 ⟨rfl, hb6⟩
        have Hb5 := Lib.hid (Hb4.out.trans (hb6.mono Hb4.out.size))
        clear hb6
        by_cases hcp : 0 < cv
        · have hv : T.timesN m e b (.c n e r) = N - 1 := by
            rw [HR.out, if_pos]
            refine ⟨hNp, ?_⟩
            have h1 := Hcv.out
            rw [Htt.out] at h1
            rcases T.cmp_vals (T.c (m * N) e b) (.c n e r) with h | h | h <;> omega
          have hq4 : IntKind.i64.wrap (N - 1) = N - 1 := IntWalk.i64_in _ (by omega)
          have Hv := Lib.hid hv
          clear hv
          go_wp2_with fail
          go_ret
          exact ⟨by rw [Hv.out]; rfl, Hb5.out⟩
        · have hv : T.timesN m e b (.c n e r) = N := by
            rw [HR.out, if_neg]
            rintro ⟨_, h⟩
            have h1 := Hcv.out
            rw [Htt.out] at h1
            omega
          have Hv := Lib.hid hv
          clear hv
          go_wp2_with fail
          go_ret
          exact ⟨by rw [Hv.out]; rfl, Hb5.out⟩
      · have hv : T.timesN m e b (.c n e r) = N := by rw [HR.out, if_neg (fun h => hNp h.1)]
        have Hv := Lib.hid hv
        clear hv
        go_wp2_with fail
        go_quiet (fail)
        go_wp2_with fail
        go_ret
        exact ⟨by rw [Hv.out]; rfl, Hbw.out.trans ((Joins.below_draws _ _ _).mono Hbw.out.size)⟩
    · have heq : eqB e.enc f.enc = false := by
        rw [eqB, decide_eq_false_iff_not]
        intro h
        exact hef (T.cmp_eq_iff.2 (T.enc_inj' h))
      rw [heq] at ke
      have hR : T.timesN m f b (.c n e r) = 0 := by rw [T.timesN, if_neg hef]
      rw [hR]
      clear hef heq hR
      go_enter Try.func52, Try.ntmps52
      go_wp2_with fail
      go_still_tail 12, (by kernel_rfl)
      change wpList _ _ _ _ _ w.drew
      go_wp2_with fail
      refine (ke.out).mono ?_
      rintro ee w1 ⟨rfl, hb1'⟩
      have Hbw := Lib.hid (((Below.refl w.heap.size w).drew).trans hb1')
      clear hb1'
      go_wp2_with fail
      go_ret
      exact ⟨rfl, Hbw.out⟩

end Go.Proofs.Ytaleaagnkfbhpab

/- DivJ -/
/- The program's OrdDivide. -/
namespace Go.Proofs.Ytaleaagnkfbhpab
open Go.RowKit

def DivPost (w : World) (q r : List Int) (o : Bool) (e : Ending) (w' : World) : Prop :=
  ∃ a1 c1 a2 c2, e = .returned (.tuple #[.slice a1 q.length c1, .slice a2 r.length c2, .bool o]) ∧ w'.ownsRow w.heap.size 3 1 (.slice a1 q.length c1) q.length (ints q) ∧ w'.ownsRow w.heap.size 3 1 (.slice a2 r.length c2) r.length (ints r) ∧
    ((Value.slice a1 q.length c1).ownBlock = none ∨ (Value.slice a1 q.length c1).ownBlock ≠ (Value.slice a2 r.length c2).ownBlock) ∧ Below w.heap.size w w'

theorem DivPost.bad {w w' : World} (hb : Below w.heap.size w w') : DivPost w [] [] false (.returned (.tuple #[.slice none 0 0, .slice none 0 0, .bool false])) w' :=
  ⟨none, 0, none, 0, rfl, nil_own w w', nil_own w w', .inl rfl, hb⟩

def DivRel (w : World) (m : Int) (f b s : T) (gk : Nat) (v7 v9 : Value) (wr : World) : Prop :=
  ∃ (u q : T) (l cs : List Value) (bl ol n k qn c9 : Nat) (a9 : Option Addr), gk = n ∧ u.Nf ∧ u.enc.length ≤ 60 ∧ T.quo m f b s = q.app (T.quo m f b u) ∧ T.rem m f b s = T.rem m f b u ∧ q.cnt = qn ∧ qn + n ≤ 100 ∧
    v7 = .slice (some ⟨bl, ol, none⟩) n k ∧ Rw w bl ol n k u l ∧ v9 = .slice a9 qn c9 ∧ wr.ownsRow w.heap.size 53 2 v9 qn cs ∧ TF wr v9.ownBlock q cs ∧ Below w.heap.size w wr

def DivEnd (w : World) (m : Int) (f b s : T) (v7 v9 : Value) (wr : World) : Prop :=
  ∃ (u q : T) (l cs : List Value) (bl ol n k qn c9 : Nat) (a9 : Option Addr), T.Low f u ∧ u.Nf ∧ u.enc.length ≤ 60 ∧ T.quo m f b s = q.app (T.quo m f b u) ∧ T.rem m f b s = T.rem m f b u ∧ q.cnt = qn ∧ qn + n ≤ 100 ∧
    v7 = .slice (some ⟨bl, ol, none⟩) n k ∧ Rw w bl ol n k u l ∧ v9 = .slice a9 qn c9 ∧ wr.ownsRow w.heap.size 53 2 v9 qn cs ∧ TF wr v9.ownBlock q cs ∧ Below w.heap.size w wr

def DivFin (w : World) (Q R : T) (v7 v9 : Value) (wx : World) : Prop :=
  ∃ (a7 a9 : Option Addr) (n7 k7 n9 c9 : Nat), v7 = .slice a7 n7 k7 ∧ Tmo wx a7 n7 R ∧ v9 = .slice a9 n9 c9 ∧ Tm wx a9 n9 Q ∧ Below w.heap.size w wx

theorem own_apart {W1 W2 : World} {B1 B2 e1 e2 n1 n2 s1 s2 : Nat} {v1 v2 : Value} {xs1 xs2 : List Value} (h1 : W1.ownsRow B1 e1 s1 v1 n1 xs1) (h2 : W2.ownsRow B2 e2 s2 v2 n2 xs2) (h : W1.heap.size ≤ B2) :
    v1.ownBlock = none ∨ v1.ownBlock ≠ v2.ownBlock := by
  cases hv : v1.ownBlock with
  | none => exact .inl rfl
  | some g =>
    refine .inr (fun he => ?_)
    have h3 := (h1.lt g hv).2
    have h4 := (h2.lt g he.symm).1
    omega

set_option maxRecDepth 100000 in
set_option maxHeartbeats 8000000 in
theorem impl_OrdDivide (a1 a2 : Option Addr) (n1 c1 n2 c2 : Nat) (xs ys : List Int) (w : World) (hx : Sl w a1 n1 c1 xs) (hy : Sl w a2 n2 c2 ys) :
    Calls Try.prog 24 #[.slice a1 n1 c1, .slice a2 n2 c2] w (DivPost w (T.quoRow xs ys) (T.remRow xs ys) (T.divOk xs ys)) := by
  obtain ⟨i0, hi, hz0, hz1, hz2⟩ := info_parts info_term
  have HX := Lib.hid hx
  have HY := Lib.hid hy
  rcases vld_tf xs with h1 | h1
  · have k1 := Lib.hid (impl_valid a1 n1 c1 xs w hx h1)
    rcases vld_tf ys with h2 | h2
    · obtain ⟨qr, hqr⟩ : ∃ qr, qr = T.quoRow xs ys := ⟨_, rfl⟩
      obtain ⟨rr, hrr⟩ : ∃ rr, rr = T.remRow xs ys := ⟨_, rfl⟩
      obtain ⟨ro, hro⟩ : ∃ ro, ro = T.divOk xs ys := ⟨_, rfl⟩
      rw [← hqr, ← hrr, ← hro]
      have H1v := Lib.hid h1
      have H2v := Lib.hid h2
      obtain ⟨b1, o1, s, rfl, rfl, hs, hos, hat1, hn1, hl1, hp1, hcc1, hm1⟩ := hx.valid h1
      obtain ⟨b2, o2, t, rfl, rfl, ht, hot, hat2, hn2, hl2, hp2, hcc2, hm2⟩ := hy.valid h2
      have Hqr := Lib.hid hqr
      have Hrr := Lib.hid hrr
      have Hro := Lib.hid hro
      have Hos := Lib.hid hos
      have Hot := Lib.hid hot
      have Hn1 := Lib.hid hn1
      have Hn2 := Lib.hid hn2
      have HA1 := Lib.hid hat1
      have HA2 := Lib.hid hat2
      have HS := Lib.hid hs
      have HT := Lib.hid ht
      have hle1 : s.enc.length ≤ 60 := by omega
      have hle2 : t.enc.length ≤ 60 := by omega
      clear hx hy h1 h2 hos hot hat1 hat2 hs ht hn1 hn2 hqr hrr hro
      go_enter Try.func24, Try.ntmps24
      go_wp2_with fail
      refine (k1.out).mono ?_
      rintro ee w1 ⟨rfl, hb1⟩
      have Hb1 := Lib.hid hb1
      have k2 := Lib.hid (impl_valid (some ⟨b2, o2, none⟩) n2 c2 t.enc w1 (HY.out.below hb1) H2v.out)
      clear hb1
      go_wp2_with fail
      refine (k2.out).mono ?_
      rintro ee w2 ⟨rfl, hb2⟩
      have Hb2 := Lib.hid (Hb1.out.trans (hb2.mono Hb1.out.size))
      have HA2w := Lib.hid (HA2.out.below Hb2.out (HA2.out.lt (T.enc_ne t)))
      have kz := Lib.hid (isZero_any b2 o2 n2 c2 (t.cnt : Int) w2 hp2 HA2w.out.head)
      clear hb2
      by_cases htz : t = .z
      · subst htz
        have hz : (((T.z).cnt : Nat) : Int) = 0 := rfl
        have hbad := T.div_bad (xs := s.enc) (ys := (T.z).enc) (.inr (.inr Hot.out))
        have hfin : DivPost w qr rr ro (.returned (.tuple #[.slice none 0 0, .slice none 0 0, .bool false])) w2 := by
          rw [Hqr.out, Hrr.out, Hro.out, hbad.1, hbad.2.1, hbad.2.2]
          exact DivPost.bad Hb2.out
        have Hfin := Lib.hid hfin
        rw [hz] at kz
        clear hbad hfin
        go_wp2_with fail
        refine (kz.out).mono ?_
        rintro ee w3 ⟨rfl, rfl⟩
        go_wp2_with fail
        go_ret3
        exact Hfin.out
      · obtain ⟨m, f, b, rfl⟩ : ∃ m f b, t = .c m f b := by
          cases t with
          | z => exact absurd rfl htz
          | c m f b => exact ⟨m, f, b, rfl⟩
        have hz : ((((T.c m f b).cnt : Nat) : Int) == 0) = false := by simp [T.cnt]; omega
        rw [hz] at kz
        have hgood := T.div_good (xs := s.enc) (ys := (T.c m f b).enc) H1v.out H2v.out Hot.out
        rw [Hos.out] at hgood
        have Hgood := Lib.hid hgood
        clear htz hz hgood
        go_wp2_with fail
        refine (kz.out).mono ?_
        rintro ee w3 ⟨rfl, rfl⟩
        have k3 := Lib.hid (termsOf_any b1 o1 n1 c1 s.enc s w2 Hn1.out.symm (by omega) hcc1 hm1 (HA1.out.below Hb2.out (HA1.out.lt (T.enc_ne s))) rfl)
        go_wp2_with fail
        refine (k3.out).mono ?_
        rintro ee w3 ⟨cs, rfl, ho3, ht3, hb3⟩
        have Hb3 := Lib.hid (Hb2.out.trans (hb3.mono Hb2.out.size))
        have Hz3 := Lib.hid (Tz.of_own ho3 ht3 rfl)
        have k4 := Lib.hid (termsOf_any b2 o2 n2 c2 (T.c m f b).enc (T.c m f b) w3 Hn2.out.symm (by omega) hcc2 hm2 (HA2.out.below Hb3.out (HA2.out.lt (T.enc_ne (T.c m f b)))) rfl)
        clear ho3 ht3 hb3
        go_wp2_with fail
        refine (k4.out).mono ?_
        rintro ee w4 ⟨ds, rfl, ho4, ht4, hb4⟩
        have Hb4 := Lib.hid (Hb3.out.trans (hb4.mono Hb3.out.size))
        have HRs := Lib.hid (Rw.of_tz (Hz3.out.below hb4))
        have Hz4 := Lib.hid (Tz.of_own ho4 ht4 rfl)
        have hs34 := hb4.size
        have hg4 : w3.heap.size < w4.heap.size := Hz4.out.2.2.2.2.1
        obtain ⟨bf, of, cf, ds', hds, hatf, hcf, hcfm, hTb⟩ := Hz4.out.2.2.2.1
        have Hds := Lib.hid hds
        have HTb := Lib.hid hTb
        obtain ⟨nt, hnt⟩ : ∃ nt, nt = (T.c m f b).cnt := ⟨_, rfl⟩
        have hnt0 : 0 < nt := by rw [hnt]; simp [T.cnt]
        have hntb : nt ≤ 60 := by have := T.cnt_le (T.c m f b); have := T.enc_len (T.c m f b); omega
        have hnt1 : (0 : Int) < (nt : Int) := by omega
        have v1 : w4.cell? ⟨w3.heap.size, 1, none⟩ = some (.slice (some ⟨bf, of, none⟩) f.enc.length cf) := by rw [Hz4.out.2.2.2.2.2 1 (by omega), hds]; rfl
        have hfl : f.enc.length ≤ 60 := by have h1 := T.enc_len (T.c m f b); rw [T.body_c, List.length_cons, List.length_append] at h1; omega
        have hsn : s.cnt ≤ 60 := by have := T.cnt_le s; have := T.enc_len s; omega
        have hst : DivRel w4 m f b s s.cnt (.slice (some ⟨w2.heap.size, 0, none⟩) s.cnt s.cnt) (.slice none 0 0) w4 :=
          ⟨s, .z, cs, [], w2.heap.size, 0, s.cnt, s.cnt, 0, 0, none, rfl, HS.out, hle1, rfl, rfl, rfl, by omega, rfl, HRs.out, rfl, ⟨rfl, .inl ⟨rfl, rfl⟩⟩, rfl, Below.refl _ _⟩
        have Hst := Lib.hid hst
        have Hatf := Lib.hid hatf
        have Hnt := Lib.hid hnt
        rw [← hnt]
        clear ho4 ht4 hb4 hds hatf hst hnt hTb
        go_upto_block 0 with fail
        go_cut [7, 9] (fun v7 v9 wx => DivEnd w4 m f b s v7 v9 wx)
        case first =>
          go_wp2_with fail
          go_loopg [7, 9] s.cnt (fun gk v7 v9 wr => DivRel w4 m f b s gk v7 v9 wr)
          case atStart => exact Hst.out
          case round =>
            obtain ⟨u, q, l, qs, bl, ol, n, k, qn, c9, a9, hgk, hun, hul, hquo, hrem, hqn, hqb, rfl, hRw, rfl, ho, hTF, hbw⟩ := hrel
            have Hgk := Lib.hid hgk
            have Hun := Lib.hid hun
            have Hquo := Lib.hid hquo
            have Hrem := Lib.hid hrem
            have Hqn := Lib.hid hqn
            have HRw := Lib.hid hRw
            have Ho := Lib.hid ho
            have HTF := Lib.hid hTF
            have Hbw := Lib.hid hbw
            have hws := hbw.size
            have hnu : n = u.cnt := hRw.1
            have hnk : n ≤ k := hRw.2.1
            have hbl : bl < w4.heap.size := hRw.2.2.2.2.1
            have hend : T.Low f u → ∀ wx, Below wr.heap.size wr wx → DivEnd w4 m f b s (.slice (some ⟨bl, ol, none⟩) n k) (.slice a9 qn c9) wx := fun h wx hb =>
              ⟨u, q, l, qs, bl, ol, n, k, qn, c9, a9, h, hun, hul, hquo, hrem, hqn, hqb, rfl, hRw, rfl, ownsRow_below' ho hb, hTF.below hb, hbw.trans (hb.mono hws)⟩
            have Hend := Lib.hid hend
            have Hnu := Lib.hid hnu
            clear hgk hun hquo hrem hqn hRw ho hTF hbw hend hnu
            by_cases huz : u = .z
            · have hn0 : n = 0 := by rw [Hnu.out, huz]; rfl
              have Hlow := Lib.hid (show T.Low f u from fun n e r h => by rw [huz] at h; cases h)
              clear huz
              subst hn0
              go_wp2_with fail
              go_quiet (fail)
              go_wp2_with fail
              go_meet
              exact Hend.out Hlow.out _ (Joins.below_draws _ _ _)
            · obtain ⟨x, e, r, rfl⟩ : ∃ x e r, u = .c x e r := by
                cases u with
                | z => exact absurd rfl huz
                | c x e r => exact ⟨x, e, r, rfl⟩
              have hn0 : 0 < n := by rw [Hnu.out]; simp [T.cnt]
              have hn1' : (0 : Int) < (n : Int) := by omega
              obtain ⟨be, oe, ce, l', hl', hate, hce, hcem, _⟩ := HRw.out.2.2.2.1
              have y0 : wr.cell? ⟨bl, ol, none⟩ = some (.int .i64 x) := (Hbw.out.cell (p := ⟨bl, ol, none⟩) hbl).trans (HRw.out.2.2.2.2.2 0 _ (by rw [hl']; rfl))
              have y1 : wr.cell? ⟨bl, ol + 1, none⟩ = some (.slice (some ⟨be, oe, none⟩) e.enc.length ce) := (Hbw.out.cell (p := ⟨bl, ol + 1, none⟩) hbl).trans (HRw.out.2.2.2.2.2 1 _ (by rw [hl']; rfl))
              have v1r : wr.cell? ⟨w3.heap.size, 1, none⟩ = some (.slice (some ⟨bf, of, none⟩) f.enc.length cf) := (Hbw.out.cell (p := ⟨w3.heap.size, 1, none⟩) hg4).trans v1
              have hel : e.enc.length ≤ 60 := by have h1 := T.enc_len (T.c x e r); rw [T.body_c, List.length_cons, List.length_append] at h1; omega
              have kc := Lib.hid (compareOrds_any (e.body.length + 1) be oe ce bf of cf e.enc.length f.enc.length e f wr.drew (by omega) rfl rfl (by omega) (by omega) hce hcem hcf hcfm (hate.below Hbw.out.drew (hate.lt (T.enc_ne e))) (Hatf.out.below Hbw.out.drew (Hatf.out.lt (T.enc_ne f))))
              obtain ⟨cv, hcv⟩ : ∃ cv, cv = e.cmp f := ⟨_, rfl⟩
              rw [← hcv] at kc
              have Hcv := Lib.hid hcv
              have Hate := Lib.hid hate
              clear huz hl' hate hcv
              go_wp2_with fail
              go_still_tail 12, (by kernel_rfl)
              change wpList _ _ _ _ _ wr.drew
              go_wp2_with fail
              refine (kc.out).mono ?_
              rintro ee w5 ⟨rfl, hb5⟩
              have hb5' : Below wr.heap.size wr w5 := ((Below.refl wr.heap.size wr).drew).trans hb5
              have Hb5 := Lib.hid hb5'
              clear hb5
              by_cases hcp : 0 < cv
              · have hgt : e.cmp f = 1 := by have h1 := Hcv.out; rcases T.cmp_vals e f with h | h | h <;> omega
                have z0 := (hb5'.cell (p := ⟨bl, ol, none⟩) (by show bl < wr.heap.size; omega)).trans y0
                have z1 := (hb5'.cell (p := ⟨bl, ol + 1, none⟩) (by show bl < wr.heap.size; omega)).trans y1
                have zv := (hb5'.cell (p := ⟨w3.heap.size, 1, none⟩) (by show w3.heap.size < wr.heap.size; omega)).trans v1r
                have hbw5 := Hbw.out.trans (hb5'.mono hws)
                have HTF5 := Lib.hid (HTF.out.below hb5')
                have Ho5 := Lib.hid (ownsRow_below' Ho.out hb5')
                have Hbw5 := Lib.hid hbw5
                have hw5 := hbw5.size
                have Hgt := Lib.hid hgt
                clear hb5' y0 y1 v1r hbw5 hgt
                have hg3 : Below w5.heap.size w5 w5.drew := (Below.refl _ _).drew
                have kt1 := Lib.hid (termsOf_any be oe e.enc.length ce e.enc e w5.drew rfl (by omega) hce hcem (Hate.out.below Hbw5.out.drew (Hate.out.lt (T.enc_ne e))) rfl)
                have hbl5 : bl < w5.heap.size := by omega
                have hw35 : w3.heap.size < w5.heap.size := by omega
                go_wp2_with fail
                go_region_held3 (fun w' => w'.cell? ⟨bl, ol + 1, none⟩ = some (.slice (some ⟨be, oe, none⟩) e.enc.length ce) ∧ w'.cell? ⟨w3.heap.size, 1, none⟩ = some (.slice (some ⟨bf, of, none⟩) f.enc.length cf)) (first | go_keep | exact ⟨kS0, kS1⟩ | exact ⟨kT0, kT1⟩ | exact ⟨kU0, kU1⟩)
                  ((first
                    | (go_at_call 33; (with_reducible refine (kt1.out).mono ?_); rintro ee wa ⟨ea, rfl, hoa, hta, hba⟩; have kS0 := (hba.cell (p := ⟨bl, ol + 1, none⟩) hbl5).trans z1; have kS1 := (hba.cell (p := ⟨w3.heap.size, 1, none⟩) hw35).trans zv; have hba' := Hbw5.out.drew.trans (hba.mono Hbw5.out.drew.size); have hza : Tz wa w5.heap.size e.cnt e.cnt e ea := Tz.of_own hoa hta rfl; have kt2 := termsOf_any bf of f.enc.length cf f.enc f wa rfl (by omega) hcf hcfm (Hatf.out.below hba' (Hatf.out.lt (T.enc_ne f))) rfl)
                    | (go_at_call 33; (with_reducible refine kt2.mono ?_); rintro ee wb ⟨eb, rfl, hob, htb, hbb⟩; have kT0 := (hbb.cell (p := ⟨bl, ol + 1, none⟩) (by have := hba.size; show bl < wa.heap.size; exact Nat.lt_of_lt_of_le hbl5 this)).trans kS0; have kT1 := (hbb.cell (p := ⟨w3.heap.size, 1, none⟩) (by have := hba.size; show w3.heap.size < wa.heap.size; exact Nat.lt_of_lt_of_le hw35 this)).trans kS1; have kb := termsBehind_any w5.heap.size 0 e.cnt e.cnt wa.heap.size 0 f.cnt f.cnt e f ea eb wb (Rw.of_tz (hza.below hbb)) (Rw.of_tz (Tz.of_own hob htb rfl)) (by omega) (by omega) (fun x hx => by have := T.nf_times Hun.out.2.2.1 x hx; omega) (fun x hx => by have := T.nf_times HT.out.2.2.1 x hx; omega) (by rw [Hgt.out]; decide))
                    | (go_at_call 48; (with_reducible refine kb.mono ?_); rintro ee wd ⟨aB, nB, cB, rfl, htm, hbd⟩; have kU0 := (hbd.cell (p := ⟨bl, ol + 1, none⟩) (by have h1 := hba.size; have h2 := hbb.size; show bl < wb.heap.size; exact Nat.lt_of_lt_of_le hbl5 (Nat.le_trans h1 h2))).trans kT0; have kU1 := (hbd.cell (p := ⟨w3.heap.size, 1, none⟩) (by have h1 := hba.size; have h2 := hbb.size; show w3.heap.size < wb.heap.size; exact Nat.lt_of_lt_of_le hw35 (Nat.le_trans h1 h2))).trans kT1)
                    | fail))
                have hbd5 : Below w5.heap.size w5 wd := hg3.trans ((hba.trans (hbb.mono hba.size)).trans (hbd.mono (Nat.le_trans hba.size hbb.size)))
                have hbd4 := Hbw5.out.trans (hbd5.mono hw5)
                have HTFd := Lib.hid (HTF5.out.below hbd5)
                have Hod := Lib.hid (ownsRow_below' Ho5.out hbd5)
                have Hbd := Lib.hid hbd4
                have hwd := hbd4.size
                have yd0 : wd.cell? ⟨bl, ol, none⟩ = some (.int .i64 x) := (hbd5.cell (p := ⟨bl, ol, none⟩) hbl5).trans z0
                have hml : (T.minus e f).enc.length ≤ 60 := by have h1 := T.minus_len e f; have := T.enc_len e; have := T.enc_len (T.minus e f); omega
                have k7 := Lib.hid (ordOfTerms_at aB nB cB (T.minus e f) wd.drew (by omega) (htm.below (Below.refl _ _).drew))
                obtain ⟨M, hM⟩ : ∃ M, M = T.minus e f := ⟨_, rfl⟩
                rw [← hM] at k7 hml
                have HM := Lib.hid hM
                have hbld : bl < wd.heap.size := by omega
                have hqn : qn ≤ 100 := by omega
                clear kS0 kS1 kT0 kT1 kU0 kU1 hba hbb hbd hoa hta hob htb kt2 kb hza htm hba' hbd5 hbd4 hg3 hM z0 z1 zv
                go_wp2_with fail
                go_region_held3 (fun w' => w'.cell? ⟨bl, ol, none⟩ = some (.int .i64 x)) (first | go_keep | exact kS0 | exact kT0)
                  ((first
                    | (go_at_call 47; (with_reducible refine (k7.out).mono ?_); rintro ee we ⟨aN, cN, rfl, hoN, hbN⟩; have hbN' : Below wd.heap.size wd we := ((Below.refl wd.heap.size wd).drew).trans hbN; obtain ⟨gN, rfl, hgN, hatN, hcN, hmN⟩ := own_row hoN; have kS0 := (hbN'.cell (p := ⟨bl, ol, none⟩) hbld).trans yd0; have hoE := ownsRow_below' Hod.out hbN'; have hwe := hbN'.size)
                    | (refine step_append_own_at (by rfl) (.tmp 54) (.tmp 62) 44 (by rfl) w4.heap.size 53 i0 (.agg #[.int .i64 0, .slice none 0 0]) 2 32 Try.underlying44 hi hz0 hz1 hz2 rfl (by decide) _ qn qs (by rfl) (hoE.alloc _) ⟨we.heap.size, 0, none⟩ 1 1 [.int .i64 x, .slice (some ⟨gN, 0, none⟩) M.enc.length cN] (by rfl) (by rfl) (cell_two_new _ _ _ _) (two_one _ _ rfl rfl) (by unfold maxLen; omega) (by omega) (by simp; omega) ?_; intro v6 w6 ho6 hg6 _ hat6; have kT0 : w6.cell? ⟨bl, ol, none⟩ = some (.int .i64 x) := hg6.cell (a := ⟨bl, ol, none⟩) ((World.cell?_alloc_past _ _ _ (show bl < we.heap.size by omega)).trans kS0) (fun h => by have h9 : w4.heap.size ≤ bl := (Hod.out.lt _ h.symm).1; omega))
                    | fail))
                obtain ⟨a6, c6, rfl⟩ := own_shape ho6
                obtain ⟨b', o', hif, hRt⟩ := HRw.out.tail
                have hfin : DivRel w4 m f b s (n - 1) (.slice (some ⟨b', o', none⟩) (n - 1) (k - 1)) (.slice a6 (qn + 1) c6) w6 := by
                  have hTe := (HTFd.out.below hbN').below ((Below.refl we.heap.size we).alloc (Nat.le_refl _) (.cells #[.int .i64 x, .slice (some ⟨gN, 0, none⟩) M.enc.length cN] 53))
                  have hTs := hTe.snoc (n := x) (hatN.alloc (T.enc_ne M) _) (own_row_lt Hod.out hgN) hcN hmN
                  refine ⟨r, q.app (.c x M .z), l.drop 2, _, b', o', n - 1, k - 1, qn + 1, c6, a6, rfl, Hun.out.2.2.2.1, by have h1 := T.enc_len (T.c x e r); rw [T.body_c, List.length_cons, List.length_append] at h1; have := T.enc_len r; omega, ?_, ?_, by rw [T.app_cnt, Hqn.out]; rfl, by omega, rfl, hRt, rfl, ho6,
                    hTs.go hg6 (fun _ _ => .inl rfl) (fun k' e' => ?_), ((Hbd.out.trans (hbN'.mono hwd)).alloc (by omega) _).grown hg6 (by simp; omega) (fun k' h => (Hod.out.lt k' h).1)⟩
                  · rw [Hquo.out, (T.quo_more r Hgt.out).1, T.app_assoc, HM.out]; rfl
                  · rw [Hrem.out, (T.quo_more r Hgt.out).2]
                  · rcases hat6 with h | h
                    · exact .inl h
                    · right
                      rw [h] at e'
                      cases e'
                      exact Nat.le_refl _
                have Hfin := Lib.hid hfin
                have Hif := Lib.hid hif
                have hk1 : (1 : Int) ≤ (n : Int) := by omega
                have hk2 : (n : Int) ≤ (k : Int) := by omega
                have hk3 : (1 : Int) ≤ (k : Int) := by omega
                clear ho6 hg6 hat6 hoN hbN hbN' hatN hoE kS0 kT0 hRt hfin hif
                by_cases hkk : k = 1
                · have hkk2 : (k : Int) = 1 := by omega
                  have hnn : n = 1 := by omega
                  have h9 := Hif.out
                  rw [if_pos hkk] at h9
                  have H9 := Lib.hid h9
                  clear h9
                  subst hkk
                  subst hnn
                  go_wp2_with fail
                  go_roundg 0
                  case measure => have := Hgk.out; omega
                  case rel => have h8 := Hfin.out; rw [← H9.out] at h8; exact h8
                · have hkk2 : ¬ (k : Int) = 1 := by omega
                  have h9 := Hif.out
                  rw [if_neg hkk] at h9
                  have H9 := Lib.hid h9
                  clear h9
                  go_wp2_with fail
                  go_roundg (n - 1)
                  case measure => have := Hgk.out; omega
                  case rel => have h8 := Hfin.out; rw [← H9.out] at h8; exact h8
              · have Hlow := Lib.hid (show T.Low f (.c x e r) from fun n' e' r' h => by cases h; have := Hcv.out; omega)
                clear y0 y1 v1r hb5'
                go_wp2_with fail
                go_meet
                exact Hend.out Hlow.out _ Hb5.out
        case rest =>
          obtain ⟨u, q, l, qs, bl, ol, n, k, qn, c9, a9, hlow, hun, hul, hquo, hrem, hqn, hqb, rfl, hRw, rfl, ho, hTF, hbw⟩ := hcut
          go_step
          obtain ⟨wz, rfl⟩ : ∃ wz : World, wz = wc := ⟨_, rfl⟩
          obtain ⟨N, hN⟩ : ∃ N, N = T.timesN m f b u := ⟨_, rfl⟩
          have kT := Lib.hid (timesIn_any bl ol n k w3.heap.size nt nt u m f b l ds wz (hRw.below hbw) (by have h := Hz4.out.below hbw; rw [← Hnt.out] at h; exact h) hun HT.out (by omega) (by omega))
          rw [← hN] at kT
          obtain ⟨t1, t2, t3⟩ := T.timesN_spec (m := m) (f := f) (b := b) HT.out.1 hun
          obtain ⟨ql, rl⟩ := T.quo_low (m := m) (b := b) hlow
          rw [← hN] at t1 t2 t3 ql rl
          have hQ : T.quo m f b s = q.app (if 0 < N then .c N .z .z else .z) := by rw [hquo, ql]
          have hR : T.rem m f b s = if 0 < N then T.minus u (.c (m * N) f b) else u := by rw [hrem, rl]
          have HQ := Lib.hid hQ
          have HR := Lib.hid hR
          have T3 := Lib.hid t3
          have Hun := Lib.hid hun
          have Hqn := Lib.hid hqn
          have HRw := Lib.hid hRw
          have Ho := Lib.hid ho
          have HTF := Lib.hid hTF
          have Hbw := Lib.hid hbw
          have hws := hbw.size
          clear hlow hun hquo hrem hqn hRw ho hTF hbw hN t3 ql rl hQ hR
          go_wp2_with fail
          refine (kT.out).mono ?_
          rintro ee w5 ⟨rfl, hb5⟩
          have hbw5 := Hbw.out.trans (hb5.mono hws)
          have Hbw5 := Lib.hid hbw5
          have HTF5 := Lib.hid (HTF.out.below hb5)
          have Ho5 := Lib.hid (ownsRow_below' Ho.out hb5)
          have hw5 := hbw5.size
          clear hb5 hbw5
          go_upto_if 70 with fail
          go_cut [7, 9] (fun v7 v9 wx => DivFin w4 (T.quo m f b s) (T.rem m f b s) v7 v9 wx)
          case first =>
            by_cases hNp : 0 < N
            · obtain ⟨p1, p2, p3⟩ := T3.out hNp
              have k0 := Lib.hid (impl_OrdOf 0 w5 (by decide) (by decide))
              rw [show T.num' 0 = (T.z).enc from rfl] at k0
              have P3 := Lib.hid p3
              clear p3
              go_wp2_with fail
              refine (k0.out).mono ?_
              rintro ee w6 ⟨aN, cN, rfl, hoN, hbN⟩
              obtain ⟨gN, rfl, hgN, hatN, hcN, hmN⟩ := own_row hoN
              have Hb6 := Lib.hid (Hbw5.out.trans (hbN.mono hw5))
              have hw6 := Hb6.out.size
              have HTF6 := Lib.hid (HTF5.out.below hbN)
              have Ho6 := Lib.hid (ownsRow_below' Ho5.out hbN)
              have HatN := Lib.hid hatN
              have h56 := hbN.size
              clear hoN hbN hatN
              go_wp2_with (first
                | (at_builtin; refine wpList_append_own_at _ rfl (.tmp 71) (.tmp 75) 44 rfl w4.heap.size 53 i0 (.agg #[.int .i64 0, .slice none 0 0]) 2 32 Try.underlying44 hi hz0 hz1 hz2 rfl (by decide) _ qn qs rfl (Ho6.out.alloc _) ⟨w6.heap.size, 0, none⟩ 1 1 [.int .i64 N, .slice (some ⟨gN, 0, none⟩) (T.z).enc.length cN] rfl rfl (cell_two_new _ _ _ _) (two_one _ _ rfl rfl) (by unfold maxLen; omega) (by omega) (by simp; omega) ?_; intro v7 w7 ho7 hg7 _ hat7))
              obtain ⟨a7, c7, rfl⟩ := own_shape ho7
              have hb7 := (Hb6.out.alloc hw6 _).grown hg7 (by simp; omega) (fun k' h => (Ho6.out.lt k' h).1)
              have hT7 : TC w7 (q.app (.c N .z .z)) (qs ++ [.int .i64 N, .slice (some ⟨gN, 0, none⟩) (T.z).enc.length cN]) := by
                have hTe := HTF6.out.below ((Below.refl w6.heap.size w6).alloc (Nat.le_refl _) (.cells #[.int .i64 N, .slice (some ⟨gN, 0, none⟩) (T.z).enc.length cN] 53))
                have hTs := hTe.snoc (n := N) (HatN.out.alloc (T.enc_ne .z) _) (own_row_lt Ho5.out hgN) hcN hmN
                exact (hTs.go hg7 (fun _ _ => .inl rfl) (fun _ _ => .inl rfl)).tc
              have htm7 := Tm.of_own ho7 hT7 (by rw [T.app_cnt, Hqn.out]; rfl)
              have Htm7 := Lib.hid htm7
              have Hb7 := Lib.hid hb7
              have hw7 := hb7.size
              have kn := Lib.hid (timesNumber_any w3.heap.size nt nt bf of cf m N f b ds' w7 (by have h := Hz4.out.below hb7; rw [← Hnt.out, Hds.out] at h; exact h) (by omega) (by omega) (by omega))
              clear ho7 hg7 hat7 hT7 htm7 hb7
              go_wp2_with fail
              refine (kn.out).mono ?_
              rintro ee w8 ⟨g8, c8, rfl, ho8, hb8⟩
              have Hb8 := Lib.hid (Hb7.out.trans (hb8.mono hw7))
              have hw8 := Hb8.out.size
              have hTC : TC w8 (.c (m * N) f b) (.int .i64 (m * N) :: .slice (some ⟨bf, of, none⟩) f.enc.length cf :: ds') := ⟨bf, of, cf, ds', rfl, Hatf.out.below Hb8.out (Hatf.out.lt (T.enc_ne f)), hcf, hcfm, HTb.out.below Hb8.out⟩
              have hz8 : Tz w8 g8 nt c8 (.c (m * N) f b) (.int .i64 (m * N) :: .slice (some ⟨bf, of, none⟩) f.enc.length cf :: ds') := Tz.of_own ho8 hTC (by rw [Hnt.out]; rfl)
              have htl : (T.c (m * N) f b).enc.length ≤ 1000 := by have h3 := hle2; rw [T.enc_len, T.body_c] at h3 ⊢; simp only [List.length_cons, List.length_append] at h3 ⊢; omega
              have kb := Lib.hid (termsBehind_any bl ol n k g8 0 nt c8 u (.c (m * N) f b) l _ w8 (HRw.out.below Hb8.out) (Rw.of_tz hz8) (by omega) htl
                (fun x hx => by have := T.nf_times Hun.out x hx; omega) (fun x hx => by
                  simp only [T.times, List.mem_cons] at hx
                  rcases hx with rfl | hx
                  · omega
                  · have := T.nf_times HT.out.2.2.2.1 x hx; omega) P3.out)
              have Htm8 := Lib.hid (Htm7.out.below hb8)
              clear ho8 hb8 hTC hz8
              go_wp2_with fail
              refine (kb.out).mono ?_
              rintro ee w9 ⟨aB, nB, cB, rfl, htm, hb9⟩
              have hfin : DivFin w4 (T.quo m f b s) (T.rem m f b s) (.slice aB nB cB) (.slice a7 (qn + 1) c7) w9 :=
                ⟨aB, a7, nB, cB, qn + 1, c7, rfl, by rw [HR.out, if_pos hNp]; exact htm, rfl, by rw [HQ.out, if_pos hNp]; exact Htm8.out.below hb9, Hb8.out.trans (hb9.mono hw8)⟩
              have Hfin := Lib.hid hfin
              clear htm hb9 hfin
              go_wp2_with fail
              go_meet
              exact Hfin.out
            · have hfin : DivFin w4 (T.quo m f b s) (T.rem m f b s) (.slice (some ⟨bl, ol, none⟩) n k) (.slice a9 qn c9) w5 :=
                ⟨_, a9, n, k, qn, c9, rfl, by rw [HR.out, if_neg hNp]; exact (HRw.out.below Hbw5.out).tmo, rfl, by rw [HQ.out, if_neg hNp, T.app_z]; exact Tm.of_own Ho5.out HTF5.out.tc Hqn.out.symm, Hbw5.out⟩
              have Hfin := Lib.hid hfin
              clear hfin
              go_wp2_with fail
              go_meet
              exact Hfin.out
          case rest =>
            obtain ⟨a7, a9', n7, k7, n9, c9', rfl, htR, rfl, htQ, hb⟩ := hcut
            go_step
            obtain ⟨wv, rfl⟩ : ∃ wv : World, wv = wc := ⟨_, rfl⟩
            obtain ⟨hvq, hvr⟩ := T.div_vld (m := m) (f := f) (b := b) HS.out hle1 HT.out
            have hlq := (T.vldB_true.1 hvq).1
            have hlr := (T.vldB_true.1 hvr).1
            obtain ⟨Q, hQ'⟩ : ∃ Q, Q = T.quo m f b s := ⟨_, rfl⟩
            obtain ⟨R, hR'⟩ : ∃ R, R = T.rem m f b s := ⟨_, rfl⟩
            rw [← hQ'] at htQ hlq
            rw [← hR'] at htR hlr
            have kq := Lib.hid (ordOfTerms_any a9' n9 c9' Q wv (by omega) htQ)
            have HQ' := Lib.hid hQ'
            have HR' := Lib.hid hR'
            have HtR := Lib.hid htR
            have Hb := Lib.hid (Hb4.out.trans (hb.mono Hb4.out.size))
            clear htR htQ hb hQ' hR' hvq hvr
            go_wp2_with fail
            refine (kq.out).mono ?_
            rintro ee wa ⟨aq, cq, rfl, hoq, hba⟩
            have kr := Lib.hid (ordOfTerms_at a7 n7 k7 R wa (by omega) (HtR.out.below hba))
            have Hoq := Lib.hid hoq
            have Hba := Lib.hid (Hb.out.trans (hba.mono Hb.out.size))
            clear hoq hba
            go_wp2_with fail
            refine (kr.out).mono ?_
            rintro ee wb ⟨ar, cr, rfl, hor, hbb⟩
            have hfin : DivPost w qr rr ro (.returned (.tuple #[.slice aq Q.enc.length cq, .slice ar R.enc.length cr, .bool true])) wb := by
              rw [Hqr.out, Hrr.out, Hro.out, Hgood.out.1, Hgood.out.2.1, Hgood.out.2.2, ← HQ'.out, ← HR'.out]
              exact ⟨aq, cq, ar, cr, rfl, Joins.ownsRow_le (ownsRow_below' Hoq.out hbb) Hb.out.size, Joins.ownsRow_le hor Hba.out.size, own_apart Hoq.out hor (Nat.le_refl _), Hba.out.trans (hbb.mono Hba.out.size)⟩
            have Hfin := Lib.hid hfin
            clear hor hbb hfin
            go_wp2_with fail
            go_ret3
            exact Hfin.out
    · have hbad := T.div_bad (xs := xs) (ys := ys) (.inr (.inl h2))
      rw [hbad.1, hbad.2.1, hbad.2.2]
      have H2v := Lib.hid h2
      clear hx hy h1 h2 hbad
      go_enter Try.func24, Try.ntmps24
      go_wp2_with fail
      refine (k1.out).mono ?_
      rintro ee w1 ⟨rfl, hb1⟩
      have Hb1 := Lib.hid hb1
      have k2 := Lib.hid (impl_valid a2 n2 c2 ys w1 (HY.out.below hb1) H2v.out)
      clear hb1
      go_wp2_with fail
      refine (k2.out).mono ?_
      rintro ee w2 ⟨rfl, hb2⟩
      have Hb2 := Lib.hid (Hb1.out.trans (hb2.mono Hb1.out.size))
      clear hb2
      go_wp2_with fail
      go_ret3
      exact DivPost.bad Hb2.out
  · have hbad := T.div_bad (xs := xs) (ys := ys) (.inl h1)
    have k1 := Lib.hid (impl_valid a1 n1 c1 xs w hx h1)
    rw [hbad.1, hbad.2.1, hbad.2.2]
    clear hx hy h1 hbad
    go_enter Try.func24, Try.ntmps24
    go_wp2_with fail
    refine (k1.out).mono ?_
    rintro ee w1 ⟨rfl, hb1⟩
    have Hb1 := Lib.hid hb1
    clear hb1
    go_wp2_with fail
    go_ret3
    exact DivPost.bad Hb1.out

end Go.Proofs.Ytaleaagnkfbhpab

/- DivS -/
/- The model's OrdDivide. -/
namespace Go.Proofs.Ytaleaagnkfbhpab
open Go.RowKit

/-- What holds of the two rows ahead of a round. -/
def DivSR (w : World) (m : Int) (f b s : T) (gk : Nat) (v11 v12 v13 : Value) (wr : World) : Prop :=
  ∃ (i : Nat) (d u q : T) (es : List Value) (a11 a12 : Option Addr) (c11 c12 qn : Nat), v13 = .int .i64 i ∧ gk + i = s.cnt ∧ d.app u = s ∧ d.cnt = i ∧ T.quo m f b s = q.app (T.quo m f b u) ∧ T.rem m f b s = T.rem m f b u ∧ q.cnt = qn ∧ qn ≤ i ∧ v11 = .slice a11 qn c11 ∧ v12 = .slice a12 qn c12 ∧
    wr.ownsRow w.heap.size 3 1 v11 qn (ints q.times) ∧ wr.ownsRow w.heap.size 23 1 v12 qn es ∧ EF wr v11.ownBlock v12.ownBlock q es ∧ Below w.heap.size w wr
def DivSE (w : World) (m : Int) (f b s : T) (v11 v12 v13 : Value) (wr : World) : Prop :=
  ∃ (i : Nat) (d u q : T) (es : List Value) (a11 a12 : Option Addr) (c11 c12 qn : Nat), v13 = .int .i64 i ∧ i + u.cnt = s.cnt ∧ d.app u = s ∧ d.cnt = i ∧ T.Low f u ∧ T.quo m f b s = q.app (T.quo m f b u) ∧ T.rem m f b s = T.rem m f b u ∧ q.cnt = qn ∧ qn ≤ i ∧ v11 = .slice a11 qn c11 ∧ v12 = .slice a12 qn c12 ∧
    wr.ownsRow w.heap.size 3 1 v11 qn (ints q.times) ∧ wr.ownsRow w.heap.size 23 1 v12 qn es ∧ EF wr v11.ownBlock v12.ownBlock q es ∧ Below w.heap.size w wr
/-- A row that was made out of terms. -/
def DivRest (wz : World) (u : T) (v14 : Value) (wx : World) : Prop := ∃ (g c : Nat), v14 = .slice (some ⟨g, 0, none⟩) u.enc.length c ∧ wx.ownsRow wz.heap.size 3 1 v14 u.enc.length (ints u.enc) ∧ Below wz.heap.size wz wx
/-- At the end. -/
def DivSF (w : World) (Q R : T) (v11 v12 v14 : Value) (wx : World) : Prop :=
  ∃ (es : List Value) (a11 a12 a14 : Option Addr) (c11 c12 c14 : Nat), v11 = .slice a11 Q.cnt c11 ∧ v12 = .slice a12 Q.cnt c12 ∧ v14 = .slice a14 R.enc.length c14 ∧
    wx.ownsRow w.heap.size 3 1 v11 Q.cnt (ints Q.times) ∧ wx.ownsRow w.heap.size 23 1 v12 Q.cnt es ∧ EC wx Q es ∧ wx.ownsRow w.heap.size 3 1 v14 R.enc.length (ints R.enc) ∧ Below w.heap.size w wx

theorem own_max {w : World} {B e n c : Nat} {a : Option Addr} {xs : List Value} (h : w.ownsRow B e 1 (.slice a n c) n xs) : c ≤ maxLen := by
  rcases h.2 with ⟨h1, _⟩ | ⟨g, cap, cur, h0, h1, h2, h3, h4, _⟩
  · simp only [Value.slice.injEq] at h1; unfold maxLen; omega
  · simp only [Value.slice.injEq] at h0; omega

theorem nf_back {d u : T} (h : (d.app u).Nf) : u.Nf := by
  induction d with
  | z => exact h
  | c n e r _ ih => exact ih h.2.2.2.1

theorem at_from {w : World} {B n c g : Nat} {s d u : T} (h : w.ownsRow B 3 1 (.slice (some ⟨g, 0, none⟩) n c) n (s.times.map (.int .i64))) (hd : d.app u = s) : At w g d.cnt u.times := by
  intro j hj
  refine own_at h ?_
  have h1 := ints_drop d u hd
  have h2 := congrArg (fun l => l[j]?) h1
  simp only [List.getElem?_drop] at h2
  show (ints s.times)[d.cnt + j]? = _
  rw [h2]
  exact ints_get _ _ hj

theorem mul_num (m : Int) (f b : T) (N : Int) : T.mul (.c m f b) (.c N .z .z) = .c (m * N) f b := rfl

/-- Where nothing is left. -/
theorem l1Make_none (a1 a2 : Option Addr) (c1 c2 : Nat) (w : World) (h1 : c1 ≤ maxLen) :
    Calls Try.prog 38 #[.slice a1 0 c1, .slice a2 0 c2] w fun e w' => ∃ a' c', e = .returned (.slice a' (T.z).enc.length c') ∧ w'.ownsRow w.heap.size 3 1 (.slice a' (T.z).enc.length c') (T.z).enc.length (ints (T.z).enc) ∧ Below w.heap.size w w' :=
  l1Make_at a1 a2 0 c1 c2 .z w (by decide) ⟨rfl, [], rfl, fun h => by omega⟩ ⟨rfl, Nat.zero_le _, h1, fun h => by omega⟩

set_option maxRecDepth 100000 in
set_option maxHeartbeats 2000000 in
theorem spec_OrdDivide (a1 a2 : Option Addr) (n1 c1 n2 c2 : Nat) (xs ys : List Int) (w : World) (hx : Sl w a1 n1 c1 xs) (hy : Sl w a2 n2 c2 ys) :
    Calls Try.prog 25 #[.slice a1 n1 c1, .slice a2 n2 c2] w (DivPost w (T.quoRow xs ys) (T.remRow xs ys) (T.divOk xs ys)) := by
  obtain ⟨i0, hi, hz0, hz1, hz2⟩ := info_parts info_int
  obtain ⟨j0, hj, hy0, hy1, hy2⟩ := info_parts info_ints
  have HX := Lib.hid hx
  have HY := Lib.hid hy
  have hlit : ∀ w1, Below w.heap.size w w1 → DivPost w [] [] false (.returned (.tuple #[.slice (some ⟨w1.heap.size, 0, none⟩) 0 0, .slice (some ⟨w1.heap.size + 1, 0, none⟩) 0 0, .bool false])) ((w1.alloc (.cells #[] 3)).alloc (.cells #[] 3)) := by
    intro w1 hb
    have hL := World.ownsRow_lit (base := w.heap.size) (e := 3) (size := 1) w1 #[] 0 hb.size (by simp [maxLen]) rfl
    have hL2 := World.ownsRow_lit (base := w.heap.size) (e := 3) (size := 1) (w1.alloc (.cells #[] 3)) #[] 0 (by have := hb.size; simp; omega) (by simp [maxLen]) rfl
    rw [World.size_alloc] at hL2
    exact ⟨_, 0, _, 0, rfl, hL.alloc _, hL2, .inr (by simp [Value.ownBlock]), (hb.alloc hb.size _).alloc (by have := hb.size; simp; omega) _⟩
  have Hlit := Lib.hid hlit
  clear hlit
  rcases vld_tf xs with h1 | h1
  · have k1 := Lib.hid (spec_valid a1 n1 c1 xs w hx h1)
    rcases vld_tf ys with h2 | h2
    · obtain ⟨qr, hqr⟩ : ∃ qr, qr = T.quoRow xs ys := ⟨_, rfl⟩
      obtain ⟨rr, hrr⟩ : ∃ rr, rr = T.remRow xs ys := ⟨_, rfl⟩
      obtain ⟨ro, hro⟩ : ∃ ro, ro = T.divOk xs ys := ⟨_, rfl⟩
      rw [← hqr, ← hrr, ← hro]
      have H1v := Lib.hid h1
      have H2v := Lib.hid h2
      obtain ⟨b1, o1, s, rfl, rfl, hs, hos, hat1, hn1, hl1, hp1, hcc1, hm1⟩ := hx.valid h1
      obtain ⟨b2, o2, t, rfl, rfl, ht, hot, hat2, hn2, hl2, hp2, hcc2, hm2⟩ := hy.valid h2
      have Hqr := Lib.hid hqr
      have Hrr := Lib.hid hrr
      have Hro := Lib.hid hro
      have Hos := Lib.hid hos
      have Hot := Lib.hid hot
      have Hn1 := Lib.hid hn1
      have Hn2 := Lib.hid hn2
      have HA1 := Lib.hid hat1
      have HA2 := Lib.hid hat2
      have HS := Lib.hid hs
      have HT := Lib.hid ht
      have hle1 : s.enc.length ≤ 60 := by omega
      have hle2 : t.enc.length ≤ 60 := by omega
      clear hx hy h1 h2 hos hot hat1 hat2 hs ht hn1 hn2 hqr hrr hro
      go_enter Try.func25, Try.ntmps25
      go_wp2_with fail
      refine (k1.out).mono ?_
      rintro ee w1 ⟨rfl, hb1⟩
      have Hb1 := Lib.hid hb1
      have k2 := Lib.hid (spec_valid (some ⟨b2, o2, none⟩) n2 c2 t.enc w1 (HY.out.below hb1) H2v.out)
      clear hb1
      by_cases htz : t = .z
      · subst htz
        have hq : ((n2 : Int) == 1) = true := by
          have hn2' : n2 = 1 := Hn2.out
          simp
          omega
        have hbad := T.div_bad (xs := s.enc) (ys := (T.z).enc) (.inr (.inr Hot.out))
        have hfin : ∀ w2, Below w1.heap.size w1 w2 → DivPost w qr rr ro (.returned (.tuple #[.slice (some ⟨w2.heap.size, 0, none⟩) 0 0, .slice (some ⟨w2.heap.size + 1, 0, none⟩) 0 0, .bool false])) ((w2.alloc (.cells #[] 3)).alloc (.cells #[] 3)) := by
          intro w2 hb
          rw [Hqr.out, Hrr.out, Hro.out, hbad.1, hbad.2.1, hbad.2.2]
          exact Hlit.out w2 (Hb1.out.trans (hb.mono Hb1.out.size))
        have Hfin := Lib.hid hfin
        clear hbad hfin
        go_wp2_with fail
        refine (k2.out).mono ?_
        rintro ee w2 ⟨rfl, hb2⟩
        have Hb2 := Lib.hid hb2
        clear hb2
        go_wp2_with fail
        go_ret3
        exact Hfin.out _ Hb2.out
      · obtain ⟨m, f, b, rfl⟩ : ∃ m f b, t = .c m f b := by
          cases t with
          | z => exact absurd rfl htz
          | c m f b => exact ⟨m, f, b, rfl⟩
        have hq : ((n2 : Int) == 1) = false := by
          have h1 := Hn2.out
          rw [T.enc_len, T.body_c, List.length_cons, List.length_append] at h1
          have := T.enc_len f
          simp
          omega
        have hgood := T.div_good (xs := s.enc) (ys := (T.c m f b).enc) H1v.out H2v.out Hot.out
        rw [Hos.out] at hgood
        have Hgood := Lib.hid hgood
        clear htz hgood
        go_wp2_with fail
        refine (k2.out).mono ?_
        rintro ee w2 ⟨rfl, hb2⟩
        have Hb2 := Lib.hid (Hb1.out.trans (hb2.mono Hb1.out.size))
        have k3 := Lib.hid (l1Terms_some b1 o1 n1 c1 s.enc s w2 Hn1.out.symm (by omega) hcc1 hm1 (HA1.out.below Hb2.out (HA1.out.lt (T.enc_ne s))) rfl)
        clear hb2
        go_wp2_with fail
        refine (k3.out).mono ?_
        rintro ee w3 ⟨g5, c5, g6, c6, es6, rfl, ho5, ho6, hE6, hb3⟩
        have hcap5 := own_cap' ho5 rfl
        have hcap6 := own_cap' ho6 rfl
        have hmax5 := own_max ho5
        have hmax6 := own_max ho6
        have Hb3 := Lib.hid (Hb2.out.trans (hb3.mono Hb2.out.size))
        have HE6 := Lib.hid (hE6.below hb3)
        have Ho5 := Lib.hid ho5
        have Ho6 := Lib.hid ho6
        have hg5 := (ho5.lt g5 rfl).2
        have hg6 := (ho6.lt g6 rfl).2
        have k4 := Lib.hid (l1Terms_some b2 o2 n2 c2 (T.c m f b).enc (T.c m f b) w3 Hn2.out.symm (by omega) hcc2 hm2 (HA2.out.below Hb3.out (HA2.out.lt (T.enc_ne _))) rfl)
        clear ho5 ho6 hE6 hb3
        go_wp2_with fail
        refine (k4.out).mono ?_
        rintro ee w4 ⟨g7, c7, g8, c8, es8, rfl, ho7, ho8, hE8, hb4⟩
        have Hb4 := Lib.hid (Hb3.out.trans (hb4.mono Hb3.out.size))
        have HE6' := Lib.hid (HE6.out.below hb4)
        have Ho5' := Lib.hid (ownsRow_below' Ho5.out hb4)
        have Ho6' := Lib.hid (ownsRow_below' Ho6.out hb4)
        have hg7 := (ho7.lt g7 rfl).2
        have hg8 := (ho8.lt g8 rfl).2
        have hs34 := hb4.size
        have hg5' : g5 < w4.heap.size := by omega
        have hg6' : g6 < w4.heap.size := by omega
        obtain ⟨bf, of, cf, es8', hes8, hatf0, hcf, hcfm, _⟩ := hE8
        have hatf := hatf0.below hb4 (hatf0.lt (T.enc_ne f))
        have x7 : w4.cell? ⟨g7, 0, none⟩ = some (.int .i64 m) := own_at ho7 rfl
        have x8 : w4.cell? ⟨g8, 0, none⟩ = some (.slice (some ⟨bf, of, none⟩) f.enc.length cf) := own_at ho8 (by rw [hes8]; rfl)
        have Hatf := Lib.hid hatf
        obtain ⟨nx, hnx⟩ : ∃ nx, nx = s.cnt := ⟨_, rfl⟩
        obtain ⟨nt, hnt⟩ : ∃ nt, nt = (T.c m f b).cnt := ⟨_, rfl⟩
        have hntp : 0 < nt := by rw [hnt]; simp [T.cnt]
        have hntp2 : (0 : Int) < (nt : Int) := by omega
        have hnxb : nx ≤ 60 := by have := T.cnt_le s; have := T.enc_len s; omega
        have hfl : f.enc.length ≤ 60 := by have h1 := T.enc_len (T.c m f b); rw [T.body_c, List.length_cons, List.length_append] at h1; omega
        rw [← hnx, ← hnt]
        rw [← hnx] at hcap5 hcap6
        have Hnx := Lib.hid hnx
        have Hnt := Lib.hid hnt
        have Hmb := Lib.hid (show 1 ≤ m ∧ m ≤ 9999 from ⟨HT.out.1, HT.out.2.1⟩)
        have hst0 : DivSR w4 m f b s nx (.slice (some ⟨w4.heap.size, 0, none⟩) 0 0) (.slice (some ⟨w4.heap.size + 1, 0, none⟩) 0 0) (.int .i64 (0 : Nat)) ((w4.alloc (.cells #[] 3)).alloc (.cells #[] 23)) := by
          have hL : (w4.alloc (.cells #[] 3)).ownsRow w4.heap.size 3 1 (.slice (some ⟨w4.heap.size, 0, none⟩) 0 0) 0 (ints []) := World.ownsRow_lit w4 #[] 0 (Nat.le_refl _) (by simp [maxLen]) rfl
          have hL2 := World.ownsRow_lit (base := w4.heap.size) (e := 23) (size := 1) (w4.alloc (.cells #[] 3)) #[] 0 (by simp) (by simp [maxLen]) rfl
          rw [World.size_alloc] at hL2
          exact ⟨0, .z, s, .z, [], _, _, 0, 0, 0, rfl, hnx, rfl, rfl, rfl, rfl, rfl, Nat.zero_le _, rfl, rfl, hL.alloc _, hL2, rfl, ((Below.refl _ _).alloc (Nat.le_refl _) _).alloc (by simp) _⟩
        have Hst0 := Lib.hid hst0
        clear ho7 ho8 hes8 hatf0 hatf hb4 hnx hnt hst0
        go_upto_block 0 with fail
        go_cut [11, 12, 13] (fun v11 v12 v13 wx => DivSE w4 m f b s v11 v12 v13 wx)
        case first =>
          go_wp2_with fail
          go_loopg [11, 12, 13] nx (fun gk v11 v12 v13 wr => DivSR w4 m f b s gk v11 v12 v13 wr)
          case atStart => exact Hst0.out
          case round =>
            obtain ⟨i, d, u, q, es, a11, a12, c11, c12, qn, rfl, hgk, hdu, hdi, hquo, hrem, hqn, hqi, rfl, rfl, ho9, ho10, hEF, hbw⟩ := hrel
            have Hgk := Lib.hid hgk
            have Hdu := Lib.hid hdu
            have Hdi := Lib.hid hdi
            have Hquo := Lib.hid hquo
            have Hrem := Lib.hid hrem
            have Hqn := Lib.hid hqn
            have Ho9 := Lib.hid (show wr.ownsRow w4.heap.size 3 1 (.slice a11 qn c11) qn (ints q.times) from ho9)
            have Ho10 := Lib.hid ho10
            have HEF := Lib.hid hEF
            have Hbw := Lib.hid hbw
            have hws := hbw.size
            have hcnt : nx = i + u.cnt := by rw [Hnx.out, ← hdu, T.app_cnt, hdi]
            have Hcnt := Lib.hid hcnt
            have hqb : qn ≤ 60 := by omega
            have hi1 : i ≤ nx := by omega
            have hend : T.Low f u → ∀ wx, Below wr.heap.size wr wx → DivSE w4 m f b s (.slice a11 qn c11) (.slice a12 qn c12) (.int .i64 (i : Nat)) wx := fun h wx hb =>
              ⟨i, d, u, q, es, a11, a12, c11, c12, qn, rfl, by have := Hnx.out; omega, hdu, hdi, h, hquo, hrem, hqn, hqi, rfl, rfl, ownsRow_below' ho9 hb, ownsRow_below' ho10 hb, hEF.below hb, hbw.trans (hb.mono hws)⟩
            have Hend := Lib.hid hend
            clear hgk hdu hdi hquo hrem hqn ho9 ho10 hEF hbw hcnt hend
            by_cases huz : u = .z
            · have hd : decide ((i : Int) < (nx : Int)) = false := decide_eq_false (by have h1 := Hcnt.out; rw [huz] at h1; simp only [T.cnt] at h1; omega)
              have hdn : decide (i < nx) = false := decide_eq_false (by have h1 := Hcnt.out; rw [huz] at h1; simp only [T.cnt] at h1; omega)
              have Hlow := Lib.hid (show T.Low f u from fun n e r h => by rw [huz] at h; cases h)
              clear huz
              go_wp2_with fail
              go_quiet (fail)
              go_wp2_with fail
              go_meet
              exact Hend.out Hlow.out _ (Joins.below_draws _ _ _)
            · obtain ⟨x, e, r, rfl⟩ : ∃ x e r, u = .c x e r := by
                cases u with
                | z => exact absurd rfl huz
                | c x e r => exact ⟨x, e, r, rfl⟩
              have hlt : i < nx := by have h1 := Hcnt.out; simp only [T.cnt] at h1; omega
              obtain ⟨be, oe, ce, pp, hpE, hce, hcem⟩ := HE6'.out.pick Hdu.out Hdi.out
              have y5 : wr.cell? ⟨g5, i, none⟩ = some (.int .i64 x) := (Hbw.out.cell (p := ⟨g5, i, none⟩) hg5').trans (own_at Ho5'.out (by rw [List.getElem?_map, T.times_pick Hdu.out Hdi.out]; rfl))
              have x6 : w4.cell? ⟨g6, i, none⟩ = some (.slice (some ⟨be, oe, none⟩) e.enc.length ce) := own_at Ho6'.out pp
              have X6 := Lib.hid x6
              have y6 : wr.cell? ⟨g6, i, none⟩ = some (.slice (some ⟨be, oe, none⟩) e.enc.length ce) := (Hbw.out.cell (p := ⟨g6, i, none⟩) hg6').trans (own_at Ho6'.out pp)
              have y8 : wr.cell? ⟨g8, 0, none⟩ = some (.slice (some ⟨bf, of, none⟩) f.enc.length cf) := (Hbw.out.cell (p := ⟨g8, 0, none⟩) hg8).trans x8
              have hel : e.enc.length ≤ 60 ∧ e.Nf := by
                have h1 := HS.out
                rw [← Hdu.out] at h1
                have h2 := T.nf_last h1
                have h3 := T.enc_len s
                rw [← Hdu.out, T.app_body, T.body_c, Hdu.out] at h3
                simp at h3
                exact ⟨by omega, h2.2.2⟩
              have hel1 := hel.1
              have Hen := Lib.hid hel.2
              have kc := Lib.hid (l1Compare_any (e.body.length + 1) be oe ce bf of cf e.enc.length f.enc.length e f wr.drew (by omega) rfl rfl (by omega) (by omega) hce hcem hcf hcfm (hpE.below Hbw.out.drew (hpE.lt (T.enc_ne e))) (Hatf.out.below Hbw.out.drew (Hatf.out.lt (T.enc_ne f))))
              obtain ⟨cv, hcv⟩ : ∃ cv, cv = e.cmp f := ⟨_, rfl⟩
              rw [← hcv] at kc
              have Hcv := Lib.hid hcv
              have HpE := Lib.hid hpE
              clear huz pp hpE hcv hel x6
              go_wp2_with fail
              go_still_tail 12, (by kernel_rfl)
              change wpList _ _ _ _ _ wr.drew
              go_wp2_with fail
              refine (kc.out).mono ?_
              rintro ee w5 ⟨rfl, hb5⟩
              have hb5' : Below wr.heap.size wr w5 := ((Below.refl wr.heap.size wr).drew).trans hb5
              have Hb5 := Lib.hid hb5'
              clear hb5
              by_cases hcp : 0 < cv
              · have hgt : e.cmp f = 1 := by have h1 := Hcv.out; rcases T.cmp_vals e f with h | h | h <;> omega
                have z5 := (hb5'.cell (p := ⟨g5, i, none⟩) (by show g5 < wr.heap.size; omega)).trans y5
                have hbw5 := Hbw.out.trans (hb5'.mono hws)
                have HEF5 := Lib.hid (HEF.out.below hb5')
                have Ho9' := Lib.hid (ownsRow_below' Ho9.out hb5')
                have Ho10' := Lib.hid (ownsRow_below' Ho10.out hb5')
                have Hbw5 := Lib.hid hbw5
                have hw5 := hbw5.size
                have Hgt := Lib.hid hgt
                clear hb5' y5 y6 y8 hbw5 hgt
                go_wp2_with (first
                  | (at_builtin; refine wpList_append_own_at _ rfl (.tmp 62) (.tmp 67) 23 rfl w4.heap.size 3 i0 (.int .i64 0) 1 8 Try.underlying23 hi hz0 hz1 hz2 rfl (by decide) _ qn (ints q.times) rfl (Ho9'.out.alloc _) ⟨w5.heap.size, 0, none⟩ 1 1 [.int .i64 x] rfl rfl (cell_one_new _ _ _) (ints_oneCell _ [x]) (by unfold maxLen; omega) (by omega) (by simp; omega) ?_; intro v1 wa ho1 hg1 _ hat1))
                obtain ⟨av1, cv1, rfl, _⟩ := own_form ho1
                have hE1 := HEF5.out.below ((Below.refl w5.heap.size w5).alloc (Nat.le_refl _) (.cells #[.int .i64 x] 3))
                obtain ⟨ho10a, hE2⟩ := mul_numbers (Ho9'.out.alloc _) (Ho10'.out.alloc _) hE1 hg1 hat1
                have hba := (Hbw5.out.alloc (by omega) _).grown hg1 (by simp; omega) (fun r h => (Ho9'.out.lt r h).1)
                have Ho1 := Lib.hid ho1
                have Ho10a := Lib.hid ho10a
                have HE2 := Lib.hid hE2
                have Hba := Lib.hid hba
                have hwa := hba.size
                have z6 : wa.cell? ⟨g6, i, none⟩ = some (.slice (some ⟨be, oe, none⟩) e.enc.length ce) := (hba.cell (p := ⟨g6, i, none⟩) hg6').trans X6.out
                have z8 : wa.cell? ⟨g8, 0, none⟩ = some (.slice (some ⟨bf, of, none⟩) f.enc.length cf) := (hba.cell (p := ⟨g8, 0, none⟩) hg8).trans x8
                have hg6a : g6 < wa.heap.size := by omega
                have hg8a : g8 < wa.heap.size := by omega
                have ka := Lib.hid (l2Minus_any be oe e.enc.length ce bf of f.enc.length cf e f wa.drew rfl rfl (by omega) (by omega) (fun x hx => by have := T.nf_times Hen.out x hx; omega) (fun x hx => by have := T.nf_times HT.out.2.2.1 x hx; omega) hce hcem hcf hcfm
                  (HpE.out.below hba.drew (HpE.out.lt (T.enc_ne e))) (Hatf.out.below hba.drew (Hatf.out.lt (T.enc_ne f))))
                have hsz4 : w4.heap.size ≤ wa.heap.size := hwa
                obtain ⟨M, hM⟩ : ∃ M, M = T.minus e f := ⟨_, rfl⟩
                rw [← hM] at ka
                have HM := Lib.hid hM
                clear ho1 hg1 hat1 hE1 ho10a hE2 hba z5 hM
                go_upto_region 10 with fail
                go_region_held3 (fun w' => w'.cell? ⟨g6, i, none⟩ = some (.slice (some ⟨be, oe, none⟩) e.enc.length ce) ∧ w'.cell? ⟨g8, 0, none⟩ = some (.slice (some ⟨bf, of, none⟩) f.enc.length cf)) (first | go_keep | exact ⟨kS0, kS1⟩ | exact ⟨kT0, kT1⟩)
                  ((first
                    | (go_at_call 50; (with_reducible refine (ka.out).mono ?_); rintro ee wb ⟨aN, cN, rfl, hoN, hbN⟩; obtain ⟨gN, cN', HatN, HcN, hgN, Ho1b, Ho10b, HE3, Hbb, hsb, hsab, heN⟩ := mul_called (q := q) hoN hbN Ho1.out Ho10a.out HE2.out Hba.out; obtain ⟨rfl, rfl⟩ := heN; have kS0 := (hbN.cell (p := ⟨g6, i, none⟩) hg6a).trans z6; have kS1 := (hbN.cell (p := ⟨g8, 0, none⟩) hg8a).trans z8)
                    | (refine step_append_own_at (by rfl) (.tmp 69) (.tmp 78) 47 (by rfl) w4.heap.size 23 j0 (.slice none 0 0) 1 24 Try.underlying47 hj hy0 hy1 hy2 rfl (by decide) _ qn es (by rfl) (Ho10b.alloc _) ⟨wb.heap.size, 0, none⟩ 1 1 [.slice (some ⟨gN, 0, none⟩) M.enc.length cN'] (by rfl) (by rfl) (cell_one_new _ _ _) (slice_oneCell _ _ _) (by unfold maxLen; omega) (by omega) (by simp; omega) ?_; intro v2 wd ho2 hg2 _ hat2; have kT0 : wd.cell? ⟨g6, i, none⟩ = some (.slice (some ⟨be, oe, none⟩) e.enc.length ce) := (hg2.cell (a := ⟨g6, i, none⟩) ((World.cell?_alloc_past _ _ _ (show g6 < wb.heap.size by omega)).trans kS0) (fun h => by have h9 : w4.heap.size ≤ g6 := (Ho10b.lt _ h.symm).1; omega)); have kT1 : wd.cell? ⟨g8, 0, none⟩ = some (.slice (some ⟨bf, of, none⟩) f.enc.length cf) := (hg2.cell (a := ⟨g8, 0, none⟩) ((World.cell?_alloc_past _ _ _ (show g8 < wb.heap.size by omega)).trans kS1) (fun h => by have h9 : w4.heap.size ≤ g8 := (Ho10b.lt _ h.symm).1; omega)))
                    | fail))
                obtain ⟨av2, cv2, rfl, _⟩ := own_form ho2
                have q1 : IntKind.i64.wrap ((i : Int) + 1) = ((i + 1 : Nat) : Int) := by rw [IntWalk.i64_in _ (by omega)]; rfl
                have hfin : DivSR w4 m f b s (gk - 1) (.slice av1 (qn + 1) cv1) (.slice av2 (qn + 1) cv2) (.int .i64 ((i + 1 : Nat) : Int)) wd := by
                  have hE4 := ((HE3.below ((Below.refl wb.heap.size wb).alloc (Nat.le_refl _) (.cells #[.slice (some ⟨gN, 0, none⟩) M.enc.length cN'] 23)))).snoc (n := x) (HatN.alloc (T.enc_ne M) _) (own_row_lt Ho1.out hgN) (own_row_lt Ho10a.out hgN) HcN.1 HcN.2
                  obtain ⟨ho9', hE5⟩ := mul_exps (Ho1b.alloc _) (Ho10b.alloc _) hE4 hg2 hat2
                  have hcq : (q.app (.c x M .z)).cnt = qn + 1 := by rw [T.app_cnt, Hqn.out]; rfl
                  refine ⟨i + 1, d.app (.c x e .z), r, q.app (.c x M .z), _, av1, av2, cv1, cv2, qn + 1, rfl, by have := Hgk.out; have := Hnx.out; omega, by rw [T.app_assoc]; exact Hdu.out, by rw [T.app_cnt, Hdi.out]; rfl, ?_, ?_, hcq, by omega, rfl, rfl, ?_, ho2, hE5, (Hbb.alloc (by omega) _).grown hg2 (by simp; omega) (fun r h => (Ho10b.lt r h).1)⟩
                  · rw [T.app_assoc, Hquo.out, (T.quo_more r Hgt.out).1, HM.out]; rfl
                  · rw [Hrem.out, (T.quo_more r Hgt.out).2]
                  · have e1 : ints (q.app (.c x M .z)).times = ints q.times ++ [.int .i64 x] := (ints_snoc q M x).symm
                    rw [e1]; exact ho9'
                have Hfin := Lib.hid hfin
                clear ho2 hg2 hat2 hfin
                go_wp2_with fail
                go_roundg (gk - 1)
                case measure => have := Hgk.out; have := Hnx.out; omega
                case rel => exact Hfin.out
              · have Hlow := Lib.hid (show T.Low f (.c x e r) from fun n' e' r' h => by cases h; have := Hcv.out; omega)
                clear y5 y6 y8 hb5'
                go_wp2_with fail
                go_meet
                exact Hend.out Hlow.out _ Hb5.out
        case rest =>
          obtain ⟨i, d, u, q, es, a11, a12, c11, c12, qn, rfl, hct, hdu, hdi, hlow, hquo, hrem, hqn, hqi, rfl, rfl, ho9, ho10, hEF, hbz⟩ := hcut
          go_step
          obtain ⟨wz, rfl⟩ : ∃ wz : World, wz = wc := ⟨_, rfl⟩
          have hun : u.Nf := by have h := HS.out; rw [← hdu] at h; exact nf_back h
          have hul : u.enc.length ≤ 60 := by have h := congrArg (fun x => T.body x) hdu; have h2 := congrArg List.length h; simp only [T.app_body, List.length_append] at h2; have := T.enc_len s; have := T.enc_len u; omega
          have Hdu := Lib.hid hdu
          have Hdi := Lib.hid hdi
          have Hqn := Lib.hid hqn
          have Ho9 := Lib.hid (show wz.ownsRow w4.heap.size 3 1 (.slice a11 qn c11) qn (ints q.times) from ho9)
          have Ho10 := Lib.hid ho10
          have HEF := Lib.hid hEF
          have Hbz := Lib.hid hbz
          have Hun := Lib.hid hun
          have hwz := hbz.size
          obtain ⟨N, hN⟩ : ∃ N, N = T.timesN m f b u := ⟨_, rfl⟩
          obtain ⟨t1, t2, t3⟩ := T.timesN_spec (m := m) (f := f) (b := b) HT.out.1 hun
          obtain ⟨ql, rl⟩ := T.quo_low (m := m) (b := b) hlow
          rw [← hN] at t1 t2 t3 ql rl
          have HQ := Lib.hid (show T.quo m f b s = q.app (if 0 < N then .c N .z .z else .z) by rw [hquo, ql])
          have HR := Lib.hid (show T.rem m f b s = if 0 < N then T.minus u (.c (m * N) f b) else u by rw [hrem, rl])
          have HN := Lib.hid hN
          have T3 := Lib.hid t3
          obtain ⟨un, hun'⟩ : ∃ un, un = u.cnt := ⟨_, rfl⟩
          have hnxu : nx = i + un := by have := Hnx.out; omega
          have Hun' := Lib.hid hun'
          have Hnxu := Lib.hid hnxu
          have hqb : qn ≤ 60 := by omega
          have hA5 := Lib.hid (at_from Ho5'.out hdu)
          rw [hdi] at hA5
          have hE6d := Lib.hid (show EC w4 u (es6.drop i) from by have h := HE6'.out; rw [← hdu] at h; have h2 := ec_back h; rw [hdi] at h2; exact h2)
          have hi1 : (i : Int) ≤ (nx : Int) := by omega
          have hi2 : (nx : Int) ≤ (c5 : Int) := by omega
          have hi3 : (nx : Int) ≤ (c6 : Int) := by omega
          have hi4 : (i : Int) ≤ (c5 : Int) := by omega
          have hi5 : (i : Int) ≤ (c6 : Int) := by omega
          have hi6 : (0 : Int) ≤ (i : Int) := by omega
          have hi7 : i ≤ nx := by omega
          clear hct hdu hdi hlow hquo hrem hqn ho9 ho10 hEF hbz hun t3 ql rl hN hun' hnxu
          go_upto_region 12 with fail
          go_cut [14] (fun v14 wx => DivRest wz u v14 wx)
          case first =>
            have hfin : ∀ (e : Ending) (w' : World), Below wz.drew.heap.size wz.drew w' → (∃ a' c', e = .returned (.slice a' u.enc.length c') ∧ w'.ownsRow wz.drew.heap.size 3 1 (.slice a' u.enc.length c') u.enc.length (ints u.enc)) → ∃ g c, e = .returned (.slice (some ⟨g, 0, none⟩) u.enc.length c) ∧ DivRest wz u (.slice (some ⟨g, 0, none⟩) u.enc.length c) w' := by
              rintro e w' hb ⟨a', c', rfl, ho⟩
              obtain ⟨g, rfl, _⟩ := own_row ho
              exact ⟨g, c', rfl, g, c', rfl, ho, ((Below.refl wz.heap.size wz).drew).trans hb⟩
            have Hfin := Lib.hid hfin
            clear hfin
            by_cases huz : u = .z
            · have hun0 : un = 0 := by rw [Hun'.out, huz]; rfl
              have hnxi : nx = i := by have := Hnxu.out; omega
              subst huz
              subst hnxi
              by_cases h5 : c5 = nx
              all_goals by_cases h6 : c6 = nx
              · have k14 := fun a1 a2 => Lib.hid (l1Make_none a1 a2 0 0 wz.drew (Nat.zero_le _))
                subst h5
                subst h6
                clear hun0
                go_wp2_with fail
                go_still_tail 6, (by kernel_rfl)
                change wpList _ _ _ _ _ wz.drew
                go_wp2_with fail
                refine ((k14 _ _).out).mono ?_
                rintro ee wy ⟨a', c', rfl, ho, hb⟩
                obtain ⟨g, c, he, hD⟩ := Hfin.out _ _ hb ⟨a', c', rfl, ho⟩
                simp only [Ending.returned.injEq, Value.slice.injEq] at he
                obtain ⟨rfl, _, rfl⟩ := he
                have HD := Lib.hid hD
                clear ho hb hD
                go_wp2_with fail
                go_meet
                exact HD.out
              · have k14 := fun a1 a2 => Lib.hid (l1Make_none a1 a2 0 (c6 - nx) wz.drew (Nat.zero_le _))
                have h6' : ¬ (c6 : Int) = (nx : Int) := by omega
                subst h5
                clear hun0
                go_wp2_with fail
                go_still_tail 6, (by kernel_rfl)
                change wpList _ _ _ _ _ wz.drew
                go_wp2_with fail
                refine ((k14 _ _).out).mono ?_
                rintro ee wy ⟨a', c', rfl, ho, hb⟩
                obtain ⟨g, c, he, hD⟩ := Hfin.out _ _ hb ⟨a', c', rfl, ho⟩
                simp only [Ending.returned.injEq, Value.slice.injEq] at he
                obtain ⟨rfl, _, rfl⟩ := he
                have HD := Lib.hid hD
                clear ho hb hD
                go_wp2_with fail
                go_meet
                exact HD.out
              · have k14 := fun a1 a2 => Lib.hid (l1Make_none a1 a2 (c5 - nx) 0 wz.drew (by omega))
                have h5' : ¬ (c5 : Int) = (nx : Int) := by omega
                subst h6
                clear hun0
                go_wp2_with fail
                go_still_tail 6, (by kernel_rfl)
                change wpList _ _ _ _ _ wz.drew
                go_wp2_with fail
                refine ((k14 _ _).out).mono ?_
                rintro ee wy ⟨a', c', rfl, ho, hb⟩
                obtain ⟨g, c, he, hD⟩ := Hfin.out _ _ hb ⟨a', c', rfl, ho⟩
                simp only [Ending.returned.injEq, Value.slice.injEq] at he
                obtain ⟨rfl, _, rfl⟩ := he
                have HD := Lib.hid hD
                clear ho hb hD
                go_wp2_with fail
                go_meet
                exact HD.out
              · have k14 := fun a1 a2 => Lib.hid (l1Make_none a1 a2 (c5 - nx) (c6 - nx) wz.drew (by omega))
                have h5' : ¬ (c5 : Int) = (nx : Int) := by omega
                have h6' : ¬ (c6 : Int) = (nx : Int) := by omega
                clear hun0
                go_wp2_with fail
                go_still_tail 6, (by kernel_rfl)
                change wpList _ _ _ _ _ wz.drew
                go_wp2_with fail
                refine ((k14 _ _).out).mono ?_
                rintro ee wy ⟨a', c', rfl, ho, hb⟩
                obtain ⟨g, c, he, hD⟩ := Hfin.out _ _ hb ⟨a', c', rfl, ho⟩
                simp only [Ending.returned.injEq, Value.slice.injEq] at he
                obtain ⟨rfl, _, rfl⟩ := he
                have HD := Lib.hid hD
                clear ho hb hD
                go_wp2_with fail
                go_meet
                exact HD.out
            · have hunp : 0 < un := by
                rw [Hun'.out]
                cases u with
                | z => exact absurd rfl huz
                | c n e r => simp [T.cnt]
              have h5 : ¬ c5 = i := by have := Hnxu.out; omega
              have h6 : ¬ c6 = i := by have := Hnxu.out; omega
              have h5' : ¬ (c5 : Int) = (i : Int) := by omega
              have h6' : ¬ (c6 : Int) = (i : Int) := by omega
              have k14 := Lib.hid (l1Make_at (some ⟨g5, i, none⟩) (some ⟨g6, i, none⟩) (nx - i) (c5 - i) (c6 - i) u wz.drew (by omega)
                ⟨by have := Hnxu.out; have := Hun'.out; omega, _, hE6d.out.below Hbz.out.drew, fun _ => ⟨g6, i, rfl, by show g6 < wz.heap.size; omega, fun j v hj => (Hbz.out.drew.cell (p := ⟨g6, i + j, none⟩) hg6').trans (own_at Ho6'.out (by rw [List.getElem?_drop] at hj; exact hj))⟩⟩
                ⟨by rw [T.times_len, ← Hun'.out]; have := Hnxu.out; omega, by omega, by omega, fun _ => ⟨g5, i, rfl, hA5.out.below Hbz.out.drew hg5'⟩⟩)
              clear huz
              go_wp2_with fail
              go_still_tail 6, (by kernel_rfl)
              change wpList _ _ _ _ _ wz.drew
              go_wp2_with fail
              refine (k14.out).mono ?_
              rintro ee wy ⟨a', c', rfl, ho, hb⟩
              obtain ⟨g, c, he, hD⟩ := Hfin.out _ _ hb ⟨a', c', rfl, ho⟩
              simp only [Ending.returned.injEq, Value.slice.injEq] at he
              obtain ⟨rfl, _, rfl⟩ := he
              have HD := Lib.hid hD
              clear ho hb hD
              go_wp2_with fail
              go_meet
              exact HD.out
          case rest =>
            obtain ⟨g14, c14, rfl, ho14, hby⟩ := hcut
            go_step
            obtain ⟨wy, rfl⟩ : ∃ wy : World, wy = wc := ⟨_, rfl⟩
            have hat14 := (own_row ho14)
            obtain ⟨g14', he14, hg14, hat14, hcap14, hmax14⟩ := hat14
            simp only [Option.some.injEq, Addr.mk.injEq, and_true] at he14
            subst he14
            have Hat14 := Lib.hid hat14
            have Ho14 := Lib.hid ho14
            have Hby := Lib.hid (Hbz.out.trans (hby.mono hwz))
            have hwy := Hby.out.size
            have Ho9y := Lib.hid (ownsRow_below' Ho9.out hby)
            have Ho10y := Lib.hid (ownsRow_below' Ho10.out hby)
            have HEFy := Lib.hid (HEF.out.below hby)
            have hzy := hby.size
            have hg14y := (ho14.lt g14 rfl).2
            clear ho14 hby hat14
            go_upto_region 13 with fail
            go_cut [102] (fun v102 wx => ∃ bb : Bool, v102 = .bool bb ∧ (bb = true → ∃ n r, u = .c n f r) ∧ (bb = false → N = 0) ∧ Below wy.heap.size wy wx)
            case first =>
              by_cases huz : u = .z
              · have hnxi : nx = i := by have h1 := Hun'.out; rw [huz] at h1; have := Hnxu.out; simp only [T.cnt] at h1; omega
                have hd : decide ((i : Int) < (nx : Int)) = false := decide_eq_false (by omega)
                have hdn : decide (i < nx) = false := decide_eq_false (by omega)
                have HN0 := Lib.hid (show N = 0 by rw [HN.out, huz, T.timesN])
                clear huz hnxi
                go_wp2_with fail
                go_quiet (fail)
                go_wp2_with fail
                go_meet
                exact ⟨false, rfl, (fun h => by cases h), (fun _ => HN0.out), Joins.below_draws _ _ _⟩
              · obtain ⟨n, e, r, hu1⟩ : ∃ n e r, u = .c n e r := by
                  cases u with
                  | z => exact absurd rfl huz
                  | c n e r => exact ⟨n, e, r, rfl⟩
                have hlt : i < nx := by have h1 := Hun'.out; rw [hu1] at h1; have := Hnxu.out; simp only [T.cnt] at h1; omega
                have hdd : d.app (.c n e r) = s := by rw [← hu1]; exact Hdu.out
                obtain ⟨be, oe, ce, pp, hpE, hce, hcem⟩ := HE6'.out.pick hdd Hdi.out
                have y6 : wy.cell? ⟨g6, i, none⟩ = some (.slice (some ⟨be, oe, none⟩) e.enc.length ce) := (Hby.out.cell (p := ⟨g6, i, none⟩) hg6').trans (own_at Ho6'.out pp)
                have y8 : wy.cell? ⟨g8, 0, none⟩ = some (.slice (some ⟨bf, of, none⟩) f.enc.length cf) := (Hby.out.cell (p := ⟨g8, 0, none⟩) hg8).trans x8
                have hel : e.enc.length ≤ 60 := by have h1 := T.enc_len u; rw [hu1, T.body_c, List.length_cons, List.length_append, ← hu1] at h1; omega
                have ke := Lib.hid (l1Same_any (some ⟨be, oe, none⟩) (some ⟨bf, of, none⟩) e.enc.length ce f.enc.length cf e.enc f.enc wy.drew (by omega)
                  ⟨rfl, hce, hcem, fun _ => ⟨be, oe, rfl, hpE.below Hby.out.drew (hpE.lt (T.enc_ne e))⟩⟩ ⟨rfl, hcf, hcfm, fun _ => ⟨bf, of, rfl, Hatf.out.below Hby.out.drew (Hatf.out.lt (T.enc_ne f))⟩⟩)
                have hres : (eqB e.enc f.enc = true → ∃ n r, u = .c n f r) ∧ (eqB e.enc f.enc = false → N = 0) := by
                  constructor
                  · intro h
                    have hef := T.enc_inj' (eqB_true.1 h)
                    exact ⟨n, r, by rw [hu1, hef]⟩
                  · intro h
                    rw [HN.out, hu1, T.timesN, if_neg]
                    intro h2
                    rw [T.cmp_eq h2, eqB_refl] at h
                    cases h
                have Hres := Lib.hid hres
                clear huz hu1 hdd pp hpE hres
                go_wp2_with fail
                go_still_tail 12, (by kernel_rfl)
                change wpList _ _ _ _ _ wy.drew
                go_wp2_with fail
                refine (ke.out).mono ?_
                rintro ee w5 ⟨rfl, hb5⟩
                have Hb5 := Lib.hid (((Below.refl wy.heap.size wy).drew).trans hb5)
                clear hb5
                go_wp2_with fail
                go_meet
                exact ⟨_, rfl, Hres.out.1, Hres.out.2, Hb5.out⟩
            case rest =>
              obtain ⟨bb, rfl, hyes, hno, hbt⟩ := hcut
              go_step
              obtain ⟨wt, rfl⟩ : ∃ wt : World, wt = wc := ⟨_, rfl⟩
              have Hbt := Lib.hid (Hby.out.trans (hbt.mono hwy))
              have hwt := Hbt.out.size
              have Ho9t := Lib.hid (ownsRow_below' Ho9y.out hbt)
              have Ho10t := Lib.hid (ownsRow_below' Ho10y.out hbt)
              have HEFt := Lib.hid (HEFy.out.below hbt)
              have Ho14t := Lib.hid (ownsRow_below' Ho14.out hbt)
              have Hat14t := Lib.hid (Hat14.out.below hbt (Hat14.out.lt (T.enc_ne u)))
              have hyt := hbt.size
              have Hyes := Lib.hid hyes
              have Hno := Lib.hid hno
              clear hyes hno hbt
              go_upto_if 102 with fail
              go_cut [11, 12, 14] (fun v11 v12 v14 wx => DivSF w4 (T.quo m f b s) (T.rem m f b s) v11 v12 v14 wx)
              case first =>
                cases bb with
                | false =>
                  have hN0 := Hno.out rfl
                  have hfin : DivSF w4 (T.quo m f b s) (T.rem m f b s) (.slice a11 qn c11) (.slice a12 qn c12) (.slice (some ⟨g14, 0, none⟩) u.enc.length c14) wt := by
                    rw [HQ.out, HR.out, hN0, if_neg (by omega), if_neg (by omega), T.app_z]
                    unfold DivSF
                    rw [Hqn.out]
                    exact ⟨_, _, _, _, _, _, _, rfl, rfl, rfl, Ho9t.out, Ho10t.out, HEFt.out.ec, Joins.ownsRow_le Ho14t.out hwz, Hbt.out⟩
                  have Hfin := Lib.hid hfin
                  clear hfin hN0
                  go_wp2_with fail
                  go_meet
                  exact Hfin.out
                | true =>
                  obtain ⟨n, r, hu1⟩ := Hyes.out rfl
                  obtain ⟨N0, hN0⟩ : ∃ N0, N0 = n / m := ⟨_, rfl⟩
                  have hnb : 1 ≤ n ∧ n ≤ 9999 := by have h := Hun.out; rw [hu1] at h; exact ⟨h.1, h.2.1⟩
                  obtain ⟨d1, d2, d3⟩ := T.div_le (n := n) (m := m) Hmb.out.1 (by omega)
                  rw [← hN0] at d1 d2 d3
                  have hform : N = if 0 < N0 ∧ (T.c (m * N0) f b).cmp u = 1 then N0 - 1 else N0 := by rw [HN.out, hu1, T.timesN, if_pos (T.cmp_refl f), hN0]
                  have hlt : i < nx := by have h1 := Hun'.out; rw [hu1] at h1; have := Hnxu.out; simp only [T.cnt] at h1; omega
                  have hdd : d.app (.c n f r) = s := by rw [← hu1]; exact Hdu.out
                  have y5 : wt.cell? ⟨g5, i, none⟩ = some (.int .i64 n) := (Hbt.out.cell (p := ⟨g5, i, none⟩) hg5').trans (own_at Ho5'.out (by rw [List.getElem?_map, T.times_pick hdd Hdi.out]; rfl))
                  have y7 : wt.cell? ⟨g7, 0, none⟩ = some (.int .i64 m) := (Hbt.out.cell (p := ⟨g7, 0, none⟩) hg7).trans x7
                  have hm0 : ¬ m = 0 := by have := Hmb.out.1; omega
                  have hmz : (m == 0) = false := by simpa using hm0
                  have hq1 : n.tdiv m = N0 := by rw [hN0]; exact Int.tdiv_eq_ediv_of_nonneg (by omega)
                  have hq2 : IntKind.i64.wrap N0 = N0 := IntWalk.i64_in _ (by omega)
                  have Hform := Lib.hid hform
                  have hNb0 : N0 ≤ 9999 := by omega
                  clear hN0 hnb hform hu1 hdd
                  go_wp2_with fail
                  go_quiet (fail)
                  generalize hwq : wt.drewN _ = wq
                  have hbq : Below wt.heap.size wt wq := by rw [← hwq]; exact Joins.below_draws _ _ _
                  have Hbq := Lib.hid (Hbt.out.trans (hbq.mono hwt))
                  have hwq' := Hbq.out.size
                  have Ho9q := Lib.hid (ownsRow_below' Ho9t.out hbq)
                  have Ho10q := Lib.hid (ownsRow_below' Ho10t.out hbq)
                  have HEFq := Lib.hid (HEFt.out.below hbq)
                  have Ho14q := Lib.hid (ownsRow_below' Ho14t.out hbq)
                  have Hat14q := Lib.hid (Hat14t.out.below hbq (Hat14t.out.lt (T.enc_ne u)))
                  have htq := hbq.size
                  have Hb2q := Lib.hid (HA2.out.below (Hb4.out.trans (Hbq.out.mono Hb4.out.size)) (HA2.out.lt (T.enc_ne _)))
                  clear hwq hbq y5 y7
                  go_upto_region 15 with fail
                  go_cut [121] (fun v121 wx => ∃ bq : Bool, v121 = .bool bq ∧ N = (if bq = true then N0 - 1 else N0) ∧ (bq = true → 0 < N0) ∧ Below wq.heap.size wq wx)
                  case first =>
                    by_cases hp : 0 < N0
                    · have hlit : (wq.alloc (.cells #[.int .i64 1, .int .i64 N0, .int .i64 0] 3)).ownsRow wq.heap.size 3 1 (.slice (some ⟨wq.heap.size, 0, none⟩) (T.c N0 .z .z).enc.length 3) (T.c N0 .z .z).enc.length (ints (T.c N0 .z .z).enc) := World.ownsRow_lit wq _ 3 (Nat.le_refl _) (by simp [maxLen]) rfl
                      obtain ⟨gl, hgl, _, hatl, _, _⟩ := own_row hlit
                      simp only [Option.some.injEq, Addr.mk.injEq, and_true] at hgl
                      subst hgl
                      have hnfN : (T.c N0 .z .z).Nf := ⟨by omega, hNb0, trivial, trivial, T.ok_z _⟩
                      have hbA : Below wq.heap.size wq (wq.alloc (.cells #[.int .i64 1, .int .i64 N0, .int .i64 0] 3)) := (Below.refl _ _).alloc (Nat.le_refl _) _
                      have kt := Lib.hid (l2Times_any b2 o2 n2 c2 wq.heap.size 0 3 3 (.c m f b) (.c N0 .z .z) _ HT.out hnfN Hn2.out rfl (by omega) (by omega) hcc2 hm2 (Nat.le_refl _) (by unfold maxLen; omega) (Hb2q.out.below hbA (Hb2q.out.lt (T.enc_ne _))) hatl)
                      rw [mul_num] at kt
                      obtain ⟨tt, htt⟩ : ∃ tt, tt = T.c (m * N0) f b := ⟨_, rfl⟩
                      rw [← htt] at kt
                      have htl : tt.enc.length ≤ 1000 := by rw [htt]; have h3 := hle2; rw [T.enc_len, T.body_c] at h3 ⊢; simp only [List.length_cons, List.length_append] at h3 ⊢; omega
                      have Htt := Lib.hid htt
                      have HbA := Lib.hid hbA
                      clear hlit hatl hnfN hbA htt
                      go_wp2_with fail
                      refine (kt.out).mono ?_
                      rintro ee w5 ⟨a17, c17, rfl, ho17, hb17⟩
                      obtain ⟨g17, rfl, hg17, hat17, hc17, hm17⟩ := own_row ho17
                      have hb5 := HbA.out.trans (hb17.mono HbA.out.size)
                      have kc := Lib.hid (l1Compare_any (tt.body.length + 1) g17 0 c17 g14 0 c14 tt.enc.length u.enc.length tt u w5 (by omega) rfl rfl (by omega) (by omega) hc17 hm17 hcap14 hmax14 hat17 (Hat14q.out.below hb5 (Hat14q.out.lt (T.enc_ne u))))
                      obtain ⟨cv, hcv⟩ : ∃ cv, cv = tt.cmp u := ⟨_, rfl⟩
                      rw [← hcv] at kc
                      have Hcv := Lib.hid hcv
                      have Hb5 := Lib.hid hb5
                      clear ho17 hb17 hat17 hb5 hcv
                      go_wp2_with fail
                      refine (kc.out).mono ?_
                      rintro ee w6 ⟨rfl, hb6⟩
                      have Hb6 := Lib.hid (Hb5.out.trans (hb6.mono Hb5.out.size))
                      clear hb6
                      by_cases hcp : 0 < cv
                      · have Hv := Lib.hid (show N = N0 - 1 by
                          rw [Hform.out, if_pos]
                          refine ⟨hp, ?_⟩
                          have h1 := Hcv.out
                          rw [Htt.out] at h1
                          rcases T.cmp_vals (T.c (m * N0) f b) u with h | h | h <;> omega)
                        go_wp2_with fail
                        go_meet
                        exact ⟨true, rfl, Hv.out, fun _ => hp, Hb6.out⟩
                      · have Hv := Lib.hid (show N = N0 by
                          rw [Hform.out, if_neg]
                          rintro ⟨_, h⟩
                          have h1 := Hcv.out
                          rw [Htt.out] at h1
                          omega)
                        go_wp2_with fail
                        go_meet
                        exact ⟨false, by simp [hcp], Hv.out, (fun h => by cases h), Hb6.out⟩
                    · have Hv := Lib.hid (show N = N0 by rw [Hform.out, if_neg (fun h => hp h.1)])
                      go_wp2_with fail
                      go_meet
                      exact ⟨false, rfl, Hv.out, (fun h => by cases h), Below.refl _ _⟩
                  case rest =>
                    obtain ⟨bq, rfl, hNv, hbqp, hbp⟩ := hcut
                    go_step
                    obtain ⟨wp, rfl⟩ : ∃ wp : World, wp = wc := ⟨_, rfl⟩
                    have Hbp := Lib.hid (Hbq.out.trans (hbp.mono hwq'))
                    have hwp := Hbp.out.size
                    have Ho9p := Lib.hid (ownsRow_below' Ho9q.out hbp)
                    have Ho10p := Lib.hid (ownsRow_below' Ho10q.out hbp)
                    have HEFp := Lib.hid (HEFq.out.below hbp)
                    have Ho14p := Lib.hid (ownsRow_below' Ho14q.out hbp)
                    have Hat14p := Lib.hid (Hat14q.out.below hbp (Hat14q.out.lt (T.enc_ne u)))
                    have hqp := hbp.size
                    have HNv := Lib.hid hNv
                    have Hbqp := Lib.hid hbqp
                    clear hNv hbqp hbp
                    go_upto_if 121 with fail
                    go_cut [15] (fun v15 wx => v15 = .int .i64 N ∧ wp = wx)
                    case first =>
                      cases bq with
                      | false =>
                        have h1 := HNv.out
                        rw [if_neg (by simp)] at h1
                        have H1 := Lib.hid h1
                        clear h1
                        go_wp2_with fail
                        go_meet
                        exact ⟨by rw [H1.out], rfl⟩
                      | true =>
                        have h1 := HNv.out
                        rw [if_pos rfl] at h1
                        have H1 := Lib.hid h1
                        have hq5 : IntKind.i64.wrap (N0 - 1) = N0 - 1 := IntWalk.i64_in _ (by omega)
                        clear h1
                        go_wp2_with fail
                        go_meet
                        exact ⟨by rw [H1.out], rfl⟩
                    case rest =>
                      obtain ⟨rfl, rfl⟩ := hcut
                      go_step
                      by_cases hNp : 0 < N
                      · obtain ⟨p1, p2, p3⟩ := T3.out hNp
                        go_wp2_with (first
                          | (at_builtin; refine wpList_append_own_at _ rfl (.tmp 126) (.tmp 128) 23 rfl w4.heap.size 3 i0 (.int .i64 0) 1 8 Try.underlying23 hi hz0 hz1 hz2 rfl (by decide) _ qn (ints q.times) rfl (Ho9p.out.alloc _) ⟨wp.heap.size, 0, none⟩ 1 1 [.int .i64 N] rfl rfl (cell_one_new _ _ _) (ints_oneCell _ [N]) (by unfold maxLen; omega) (by omega) (by simp; omega) ?_; intro v1 wa ho1 hg1 _ hat1; have hE1 := HEFp.out.below ((Below.refl wp.heap.size wp).alloc (Nat.le_refl _) (.cells #[.int .i64 N] 3)); obtain ⟨ho10a, hE2⟩ := mul_numbers (Ho9p.out.alloc _) (Ho10p.out.alloc _) hE1 hg1 hat1; have hba := (Hbp.out.alloc hwp _).grown hg1 (by simp; omega) (fun r h => (Ho9p.out.lt r h).1); have hwa := hba.size)
                          | (at_builtin; refine wpList_append_own_at _ rfl (.tmp 130) (.tmp 132) 47 rfl w4.heap.size 23 j0 (.slice none 0 0) 1 24 Try.underlying47 hj hy0 hy1 hy2 rfl (by decide) _ qn es rfl ((ho10a.alloc _).alloc _) ⟨wa.heap.size + 1, 0, none⟩ 1 1 [.slice (some ⟨wa.heap.size, 0, none⟩) 1 1] rfl rfl (cell_one_at _ _ _ _ (by simp)) (slice_oneCell _ _ _) (by unfold maxLen; omega) (by omega) (by simp; omega) ?_; intro v2 wd ho2 hg2 _ hat2))
                        obtain ⟨av1, cv1, rfl, _⟩ := own_form ho1
                        obtain ⟨av2, cv2, rfl, _⟩ := own_form ho2
                        have hb2 : Below wa.heap.size wa ((wa.alloc (.cells #[.int .i64 0] 3)).alloc (.cells #[.slice (some ⟨wa.heap.size, 0, none⟩) 1 1] 23)) := ((Below.refl _ _).alloc (Nat.le_refl _) _).alloc (by simp) _
                        have hlz : ((wa.alloc (.cells #[.int .i64 0] 3)).alloc (.cells #[.slice (some ⟨wa.heap.size, 0, none⟩) 1 1] 23)).ownsRow wa.heap.size 3 1 (.slice (some ⟨wa.heap.size, 0, none⟩) (T.z).enc.length 1) (T.z).enc.length (ints (T.z).enc) := (World.ownsRow_lit wa _ 1 (Nat.le_refl _) (by simp [maxLen]) rfl).alloc _
                        obtain ⟨gz, hgz, _, hatz, _, _⟩ := own_row hlz
                        simp only [Option.some.injEq, Addr.mk.injEq, and_true] at hgz
                        subst hgz
                        have hE3 := (hE2.below hb2).snoc (n := N) (e := .z) (cap := 1) hatz (own_row_lt ho1 (Nat.le_refl _)) (own_row_lt ho10a (Nat.le_refl _)) (by decide) (by unfold maxLen; omega)
                        obtain ⟨ho9d, hE5⟩ := mul_exps ((ho1.alloc _).alloc _) ((ho10a.alloc _).alloc _) hE3 hg2 hat2
                        have hbd := (hba.trans (hb2.mono hwa)).grown hg2 (by simp; omega) (fun r h => (ho10a.lt r h).1)
                        have hne14 : (Value.slice (some ⟨g14, 0, none⟩) u.enc.length c14).ownBlock = none ∨ (Value.slice (some ⟨g14, 0, none⟩) u.enc.length c14).ownBlock ≠ (Value.slice a11 qn c11).ownBlock := .inr (fun he => by
                          have h1 := (Ho9.out.lt g14 he.symm).2
                          omega)
                        have ho14a := (Ho14p.out.alloc (.cells #[.int .i64 N] 3)).kept hg1 hne14
                        have ho14b := (ho14a.alloc (.cells #[.int .i64 0] 3)).alloc (.cells #[.slice (some ⟨wa.heap.size, 0, none⟩) 1 1] 23)
                        have ho10b := (ho10a.alloc (.cells #[.int .i64 0] 3)).alloc (.cells #[.slice (some ⟨wa.heap.size, 0, none⟩) 1 1] 23)
                        have hne18 := own_ne ho14b ho10b (by decide)
                        have ho14d := ho14b.kept hg2 hne18
                        obtain ⟨g14d, he14d, _, hat14d, _, _⟩ := own_row ho14d
                        simp only [Option.some.injEq, Addr.mk.injEq, and_true] at he14d
                        subst he14d
                        have hlit : (wd.alloc (.cells #[.int .i64 1, .int .i64 N, .int .i64 0] 3)).ownsRow wd.heap.size 3 1 (.slice (some ⟨wd.heap.size, 0, none⟩) (T.c N .z .z).enc.length 3) (T.c N .z .z).enc.length (ints (T.c N .z .z).enc) := World.ownsRow_lit wd _ 3 (Nat.le_refl _) (by simp [maxLen]) rfl
                        obtain ⟨gl, hgl, _, hatl, _, _⟩ := own_row hlit
                        simp only [Option.some.injEq, Addr.mk.injEq, and_true] at hgl
                        subst hgl
                        have hnfN : (T.c N .z .z).Nf := ⟨by omega, t2, trivial, trivial, T.ok_z _⟩
                        have hbA : Below wd.heap.size wd (wd.alloc (.cells #[.int .i64 1, .int .i64 N, .int .i64 0] 3)) := (Below.refl _ _).alloc (Nat.le_refl _) _
                        have hwd := hbd.size
                        have hb2d := (HA2.out.below (Hb4.out.trans (hbd.mono Hb4.out.size)) (HA2.out.lt (T.enc_ne _)))
                        have kt := Lib.hid (l2Times_any b2 o2 n2 c2 wd.heap.size 0 3 3 (.c m f b) (.c N .z .z) _ HT.out hnfN Hn2.out rfl (by omega) (by omega) hcc2 hm2 (Nat.le_refl _) (by unfold maxLen; omega) (hb2d.below hbA (hb2d.lt (T.enc_ne _))) hatl)
                        rw [mul_num] at kt
                        obtain ⟨tt, htt⟩ : ∃ tt, tt = T.c (m * N) f b := ⟨_, rfl⟩
                        rw [← htt] at kt
                        have htl : tt.enc.length ≤ 1000 := by rw [htt]; have h3 := hle2; rw [T.enc_len, T.body_c] at h3 ⊢; simp only [List.length_cons, List.length_append] at h3 ⊢; omega
                        have Htt := Lib.hid htt
                        have HbA := Lib.hid hbA
                        have Hbd := Lib.hid hbd
                        have Ho9d := Lib.hid ho9d
                        have Ho12d := Lib.hid ho2
                        have HE5 := Lib.hid hE5
                        have Hat14d := Lib.hid hat14d
                        clear ho1 hg1 hat1 ho10a hE1 hE2 hba hwa ho2 hg2 hat2 hb2 hlz hatz hE3 ho9d hE5 hbd ho14a ho14b ho10b hne18 ho14d hat14d hlit hatl hnfN hbA hb2d htt hne14
                        go_wp2_with fail
                        refine (kt.out).mono ?_
                        rintro ee we ⟨a18, c18, rfl, ho18, hb18⟩
                        obtain ⟨g18, rfl, hg18, hat18, hc18, hm18⟩ := own_row ho18
                        have hbe := HbA.out.trans (hb18.mono HbA.out.size)
                        have km := Lib.hid (l2Minus_any g14 0 u.enc.length c14 g18 0 tt.enc.length c18 u tt we rfl rfl (by omega) htl (fun x hx => by have := T.nf_times Hun.out x hx; omega) (fun x hx => by
                          rw [Htt.out] at hx
                          simp only [T.times, List.mem_cons] at hx
                          rcases hx with rfl | hx
                          · omega
                          · have := T.nf_times HT.out.2.2.2.1 x hx; omega) hcap14 hmax14 hc18 hm18 (Hat14d.out.below hbe (Hat14d.out.lt (T.enc_ne u))) hat18)
                        have Hbe := Lib.hid hbe
                        clear ho18 hb18 hat18 hbe
                        go_wp2_with fail
                        refine (km.out).mono ?_
                        rintro ee wf ⟨a19, c19, rfl, ho19, hb19⟩
                        have hfin : DivSF w4 (T.quo m f b s) (T.rem m f b s) (.slice av1 (qn + 1) cv1) (.slice av2 (qn + 1) cv2) (.slice a19 (T.minus u tt).enc.length c19) wf := by
                          have hbf := Hbe.out.trans (hb19.mono Hbe.out.size)
                          have hcq : (q.app (.c N .z .z)).cnt = qn + 1 := by rw [T.app_cnt, Hqn.out]; rfl
                          rw [HQ.out, HR.out, if_pos hNp, if_pos hNp, ← Htt.out]
                          unfold DivSF
                          rw [hcq]
                          have e1 : ints (q.app (.c N .z .z)).times = ints q.times ++ [.int .i64 N] := (ints_snoc q .z N).symm
                          exact ⟨_, _, _, _, _, _, _, rfl, rfl, rfl, by rw [e1]; exact ownsRow_below' Ho9d.out hbf, ownsRow_below' Ho12d.out hbf, (HE5.out.below hbf).ec, Joins.ownsRow_le ho19 (Nat.le_trans hwd Hbe.out.size), Hbd.out.trans (hbf.mono hwd)⟩
                        have Hfin := Lib.hid hfin
                        clear ho19 hb19 hfin
                        go_wp2_with fail
                        go_meet
                        exact Hfin.out
                      · have hN0' : N = 0 := by omega
                        have hfin : DivSF w4 (T.quo m f b s) (T.rem m f b s) (.slice a11 qn c11) (.slice a12 qn c12) (.slice (some ⟨g14, 0, none⟩) u.enc.length c14) wp := by
                          rw [HQ.out, HR.out, if_neg hNp, if_neg hNp, T.app_z]
                          unfold DivSF
                          rw [Hqn.out]
                          exact ⟨_, _, _, _, _, _, _, rfl, rfl, rfl, Ho9p.out, Ho10p.out, HEFp.out.ec, Joins.ownsRow_le Ho14p.out hwz, Hbp.out⟩
                        have Hfin := Lib.hid hfin
                        clear hfin hN0'
                        go_wp2_with fail
                        go_meet
                        exact Hfin.out
              case rest =>
                obtain ⟨es', a11', a12', a14', c11', c12', c14', rfl, rfl, rfl, ho11, ho12, hEC, ho14', hbv⟩ := hcut
                go_step
                obtain ⟨wv, rfl⟩ : ∃ wv : World, wv = wc := ⟨_, rfl⟩
                obtain ⟨hvq, hvr⟩ := T.div_vld (m := m) (f := f) (b := b) HS.out hle1 HT.out
                have hlq := (T.vldB_true.1 hvq).1
                obtain ⟨Q, hQ'⟩ : ∃ Q, Q = T.quo m f b s := ⟨_, rfl⟩
                obtain ⟨R, hR'⟩ : ∃ R, R = T.rem m f b s := ⟨_, rfl⟩
                rw [← hQ'] at ho11 ho12 hEC hvq hlq ⊢
                rw [← hR'] at ho14' hvr ⊢
                have HQ' := Lib.hid hQ'
                have HR' := Lib.hid hR'
                have kq := Lib.hid (l1Make_any a11' a12' Q.cnt c11' c12' Q wv (by omega) (sum_ex ho12 hEC rfl) (sum_sl ho11 rfl))
                have Ho14v := Lib.hid ho14'
                have Hbv := Lib.hid (Hb4.out.trans (hbv.mono Hb4.out.size))
                have Hvq := Lib.hid hvq
                have Hvr := Lib.hid hvr
                have hwv := hbv.size
                clear ho11 ho12 hEC ho14' hbv hQ' hR' hvq hvr
                go_wp2_with fail
                refine (kq.out).mono ?_
                rintro ee wa ⟨aq, cq, rfl, hoq, hba⟩
                have kf := Lib.hid (l2Fit_yes aq Q.enc.length cq Q.enc wa (Sl.of_own hoq) Hvq.out)
                have Hoq := Lib.hid hoq
                have Hba := Lib.hid (Hbv.out.trans (hba.mono Hbv.out.size))
                have Ho14a := Lib.hid (ownsRow_below' Ho14v.out hba)
                have hva := hba.size
                clear hoq hba
                go_wp2_with fail
                refine (kf.out).mono ?_
                rintro ee wb ⟨rfl, hbb⟩
                have Hbb := Lib.hid (Hba.out.trans (hbb.mono Hba.out.size))
                have Hoqb := Lib.hid (ownsRow_below' Hoq.out hbb)
                have Ho14b := Lib.hid (ownsRow_below' Ho14a.out hbb)
                have kg := Lib.hid (l2Fit_yes a14' R.enc.length c14' R.enc wb (Sl.of_own Ho14b.out) Hvr.out)
                clear hbb
                go_wp2_with fail
                refine (kg.out).mono ?_
                rintro ee wd ⟨rfl, hbd⟩
                have hfin : DivPost w qr rr ro (.returned (.tuple #[.slice aq Q.enc.length cq, .slice a14' R.enc.length c14', .bool true])) wd := by
                  rw [Hqr.out, Hrr.out, Hro.out, Hgood.out.1, Hgood.out.2.1, Hgood.out.2.2, ← HQ'.out, ← HR'.out]
                  refine ⟨aq, cq, a14', c14', rfl, Joins.ownsRow_le (ownsRow_below' Hoqb.out hbd) Hbv.out.size, Joins.ownsRow_le (ownsRow_below' Ho14b.out hbd) Hb4.out.size, ?_, Hbb.out.trans (hbd.mono Hbb.out.size)⟩
                  cases hv : (Value.slice aq Q.enc.length cq).ownBlock with
                  | none => exact .inl rfl
                  | some g =>
                    refine .inr (fun he => ?_)
                    have h3 := (Hoq.out.lt g hv).1
                    have h4 := (Ho14v.out.lt g he.symm).2
                    omega
                have Hfin := Lib.hid hfin
                clear hbd hfin
                go_wp2_with fail
                go_ret3
                exact Hfin.out
    · have hbad := T.div_bad (xs := xs) (ys := ys) (.inr (.inl h2))
      rw [hbad.1, hbad.2.1, hbad.2.2]
      have H2v := Lib.hid h2
      clear hx hy h1 h2 hbad
      go_enter Try.func25, Try.ntmps25
      go_wp2_with fail
      refine (k1.out).mono ?_
      rintro ee w1 ⟨rfl, hb1⟩
      have Hb1 := Lib.hid hb1
      have k2 := Lib.hid (spec_valid a2 n2 c2 ys w1 (HY.out.below hb1) H2v.out)
      clear hb1
      go_wp2_with fail
      refine (k2.out).mono ?_
      rintro ee w2 ⟨rfl, hb2⟩
      have Hb2 := Lib.hid (Hb1.out.trans (hb2.mono Hb1.out.size))
      clear hb2
      go_wp2_with fail
      go_ret3
      exact Hlit.out _ Hb2.out
  · have hbad := T.div_bad (xs := xs) (ys := ys) (.inl h1)
    have k1 := Lib.hid (spec_valid a1 n1 c1 xs w hx h1)
    rw [hbad.1, hbad.2.1, hbad.2.2]
    clear hx hy h1 hbad
    go_enter Try.func25, Try.ntmps25
    go_wp2_with fail
    refine (k1.out).mono ?_
    rintro ee w1 ⟨rfl, hb1⟩
    have Hb1 := Lib.hid hb1
    clear hb1
    go_wp2_with fail
    go_ret3
    exact Hlit.out _ Hb1.out

end Go.Proofs.Ytaleaagnkfbhpab

/- DivM -/
/- Quotients: what was divided comes back, and what is left is less. -/
namespace Go.Proofs.Ytaleaagnkfbhpab
namespace T

/-- The product of the divisor with the quotient. -/
def back (m : Int) (f b s : T) : T := mul (c m f b) (quo m f b s)

theorem back_more {m n : Int} {f b e : T} (r : T) (he : e.Nf) (hf : f.Nf) (h : e.cmp f = 1) : back m f b (c n e r) = c n e (back m f b r) := by
  unfold back
  obtain ⟨_, h2, h3⟩ := minus_back he hf h
  rw [(quo_more r h).1]
  show mulT m f b (c n (minus e f) (quo m f b r)) = _
  rw [mulT_pos _ _ _ _ _ h3, h2]
  rfl
theorem back_low {m : Int} {f b u : T} (h : Low f u) : back m f b u = if 0 < timesN m f b u then c (m * timesN m f b u) f b else z := by
  unfold back
  rw [(quo_low h).1]
  split
  · rfl
  · rfl

theorem low_of {e f : T} (n : Int) (r : T) (h : ¬ e.cmp f = 1) : Low f (c n e r) := fun n' e' r' hh => by cases hh; exact h

/-- What is left, behind the terms of greater exponents. -/
theorem rem_low {m : Int} {f b u : T} (ht : (c m f b).Nf) (hu : u.Nf) (h : Low f u) : (rem m f b u).cmp (c m f b) = -1 ∧ add (back m f b u) (rem m f b u) = u := by
  obtain ⟨t1, t2, t3⟩ := timesN_spec (m := m) (f := f) (b := b) ht.1 hu
  rw [(quo_low h).2, back_low h]
  by_cases hN : 0 < timesN m f b u
  · obtain ⟨u1, u2, u3⟩ := t3 hN
    rw [if_pos hN, if_pos hN]
    have ht' : (c (m * timesN m f b u) f b).Nf := ⟨u1, u2, ht.2.2.1, ht.2.2.2.1, ht.2.2.2.2⟩
    refine ⟨?_, (minus_spec _ _ hu ht' u3).2.2⟩
    cases u with
    | z => rw [timesN] at hN; omega
    | c n e r =>
      have hn := hu.1
      by_cases he : e.cmp f = 0
      · obtain ⟨d1, d2, d3⟩ := div_le (n := n) (m := m) ht.1 (by omega)
        have hmod := Int.emod_lt_of_pos n (show 0 < m by have := ht.1; omega)
        have hdm := Int.mul_ediv_add_emod n m
        have hcc : (c (m * (n / m)) f b).cmp (c n e r) = if m * (n / m) < n then -1 else b.cmp r := by
          rw [cmp_c, if_pos (by rw [cmp_swap, he]; rfl)]
          by_cases h1 : m * (n / m) < n
          · rw [if_pos h1, if_pos h1]
          · rw [if_neg h1, if_neg h1, if_neg (by omega)]
        rw [timesN, if_pos he] at hN u3 ⊢
        rw [hcc] at hN u3 ⊢
        obtain ⟨N, hNe⟩ : ∃ N, N = n / m := ⟨_, rfl⟩
        rw [← hNe] at hN u3 d1 d2 d3 hdm ⊢
        by_cases h1 : m * N < n
        · rw [if_pos h1] at hN u3 ⊢
          rw [if_neg (by omega)] at hN u3 ⊢
          rw [minus_less _ _ he (by omega), cmp_c, if_pos he, if_pos (by omega)]
        · rw [if_neg h1] at hN u3 ⊢
          by_cases h2 : 0 < N ∧ b.cmp r = 1
          · rw [if_pos h2] at hN u3 ⊢
            have h4 : m * (N - 1) = m * N - m := by rw [Int.mul_sub, Int.mul_one]
            have := ht.1
            rw [minus_less _ _ he (by omega), cmp_c, if_pos he, if_neg (by omega), if_neg (by omega)]
            rw [cmp_swap, h2.2]
          · rw [if_neg h2] at hN u3 ⊢
            have h3 : n = m * N := by omega
            rw [← h3, minus_same _ _ _ he]
            have h5 : r.cmp b ≠ -1 := by
              intro h6
              have h7 := cmp_swap r b
              exact h2 ⟨hN, by omega⟩
            have h8 := (minus_spec r b hu.2.2.2.1 ht.2.2.2.1 h5).2.1 (some e) hu.2.2.2.2
            have hef := cmp_eq he
            subst hef
            cases hm : minus r b with
            | z => rfl
            | c k g q => rw [hm, ok_c] at h8; exact cmp_lt h8
      · rw [timesN, if_neg he] at hN
        omega
  · rw [if_neg hN, if_neg hN]
    refine ⟨?_, z_add u⟩
    cases u with
    | z => rfl
    | c n e r =>
      have hn := hu.1
      rcases cmp_vals e f with he | he | he
      · exact cmp_lt he
      · obtain ⟨d1, d2, d3⟩ := div_le (n := n) (m := m) ht.1 (by omega)
        have hmod := Int.emod_lt_of_pos n (show 0 < m by have := ht.1; omega)
        have hdm := Int.mul_ediv_add_emod n m
        rw [timesN, if_pos he] at hN
        obtain ⟨N, hNe⟩ : ∃ N, N = n / m := ⟨_, rfl⟩
        rw [← hNe] at hN d1 d2 d3 hdm
        by_cases h2 : 0 < N ∧ (c (m * N) f b).cmp (c n e r) = 1
        · rw [if_pos h2] at hN
          have h3 : N = 1 := by omega
          have h4 := h2.2
          rw [h3, Int.mul_one] at h4
          rw [cmp_swap, h4]
        · rw [if_neg h2] at hN
          have h3 : N = 0 := by omega
          rw [h3, Int.mul_zero] at hdm
          rw [cmp_c, if_pos he, if_pos (by omega)]
      · exact absurd he (h n e r rfl)

theorem lead_less {k : Int} {f b g q : T} {m : Int} (h : (c k g q).cmp (c m f b) = -1) : g.cmp f ≠ 1 := by
  intro h1
  rw [cmp_gt h1] at h
  omega

/-- The quotient, once more, and what is left. -/
theorem div_back {m : Int} {f b : T} (ht : (c m f b).Nf) : ∀ s : T, s.Nf → (rem m f b s).cmp (c m f b) = -1 ∧ add (back m f b s) (rem m f b s) = s := by
  intro s
  induction s with
  | z => intro hs; exact rem_low ht hs (fun n e r h => by cases h)
  | c n e r _ ih =>
    intro hs
    by_cases h : e.cmp f = 1
    · obtain ⟨i1, i2⟩ := ih hs.2.2.2.1
      rw [(quo_more r h).2, back_more r hs.2.2.1 ht.2.2.1 h]
      refine ⟨i1, ?_⟩
      cases hR : rem m f b r with
      | z => rw [hR] at i2; rw [add_z] at i2 ⊢; rw [i2]
      | c k g q =>
        rw [hR] at i1 i2
        have h1 := lead_less i1
        have h2 : e.cmp g = 1 := by
          rcases cmp_vals f g with h3 | h3 | h3
          · have := cmp_swap f g; omega
          · rw [← cmp_eq h3]; exact h
          · exact cmp_trans' h h3
        rw [add_gt _ _ _ _ h2, i2]
    · exact rem_low ht hs (low_of n r h)

theorem back_nf {m : Int} {f b : T} (ht : (c m f b).Nf) : ∀ s : T, s.Nf → (back m f b s).Nf ∧ (∀ e : T, e.cmp f = 1 → ok (some e) s → ok (some e) (back m f b s)) ∧ (back m f b s).body.length ≤ s.body.length + (c m f b).body.length := by
  intro s
  have hlow : ∀ u : T, u.Nf → Low f u → (back m f b u).Nf ∧ (∀ e : T, e.cmp f = 1 → ok (some e) u → ok (some e) (back m f b u)) ∧ (back m f b u).body.length ≤ u.body.length + (c m f b).body.length := by
    intro u hu h
    obtain ⟨t1, t2, t3⟩ := timesN_spec (m := m) (f := f) (b := b) ht.1 hu
    rw [back_low h]
    by_cases hN : 0 < timesN m f b u
    · obtain ⟨u1, u2, u3⟩ := t3 hN
      rw [if_pos hN]
      refine ⟨⟨u1, u2, ht.2.2.1, ht.2.2.2.1, ht.2.2.2.2⟩, fun e he _ => ?_, ?_⟩
      · rw [ok_c, cmp_swap, he]
      · rw [body_c, body_c]
        simp only [List.length_cons, List.length_append]
        omega
    · rw [if_neg hN]
      exact ⟨trivial, fun _ _ _ => ok_z _, by simp [body]⟩
  induction s with
  | z => intro hs; exact hlow _ hs (fun n e r h => by cases h)
  | c n e r _ ih =>
    intro hs
    by_cases h : e.cmp f = 1
    · obtain ⟨i1, i2, i3⟩ := ih hs.2.2.2.1
      rw [back_more r hs.2.2.1 ht.2.2.1 h]
      refine ⟨⟨hs.1, hs.2.1, hs.2.2.1, i1, i2 e h hs.2.2.2.2⟩, fun e' _ ho => ?_, ?_⟩
      · rw [ok_c] at ho ⊢; exact ho
      · rw [body_c, body_c]
        simp only [List.length_cons, List.length_append]
        omega
    · exact hlow _ hs (low_of n r h)

theorem divOk_vld {xs ys : List Int} (h : divOk xs ys = true) : vldB xs = true ∧ vldB ys = true := by
  rw [divOk, Bool.and_eq_true, Bool.and_eq_true] at h
  exact h.1
theorem divOk_false {xs ys : List Int} (h : divOk xs ys = false) : quoRow xs ys = [] ∧ remRow xs ys = [] := by
  have hb : vldB xs = false ∨ vldB ys = false ∨ of ys = z := by
    cases h1 : vldB xs with
    | false => exact .inl rfl
    | true =>
      cases h2 : vldB ys with
      | false => exact .inr (.inl rfl)
      | true =>
        cases hy : of ys with
        | z => exact .inr (.inr rfl)
        | c m f b => rw [(div_good h1 h2 hy).2.2] at h; cases h
  exact ⟨(div_bad hb).1, (div_bad hb).2.1⟩

/-- On rows: where the product isn't too long, it is an ordinal, and with what is left it is the first one again. -/
theorem divRow_back {xs ys : List Int} (h : divOk xs ys = true) (hl : xs.length + ys.length ≤ 60) :
    mulOk ys (quoRow xs ys) = true ∧ addOk (mulRow ys (quoRow xs ys)) (remRow xs ys) = true ∧ addRow (mulRow ys (quoRow xs ys)) (remRow xs ys) = xs ∧ cmpRow (remRow xs ys) ys = -1 := by
  have h0 := h
  rw [divOk, Bool.and_eq_true, Bool.and_eq_true, decide_eq_true_eq] at h0
  obtain ⟨⟨h1, h2⟩, h3⟩ := h0
  obtain ⟨m, f, b, hy⟩ : ∃ m f b, of ys = c m f b := by
    cases hy : of ys with
    | z => rw [hy] at h3; exact absurd h3 (by simp [cnt])
    | c m f b => exact ⟨m, f, b, rfl⟩
  obtain ⟨g1, g2, _⟩ := div_good h1 h2 hy
  have hs := nf_of h1
  have ht := nf_of h2
  rw [hy] at ht
  have hxl := congrArg List.length (enc_of h1)
  have hyl := congrArg List.length (enc_of h2)
  rw [enc_len] at hxl hyl
  rw [hy] at hyl
  obtain ⟨b1, _, b3⟩ := back_nf ht (of xs) hs
  obtain ⟨d1, d2⟩ := div_back ht (of xs) hs
  obtain ⟨v1, v2⟩ := div_vld hs (by rw [enc_of h1]; exact (vldB_true.1 h1).1) ht
  have hbv : vldB (back m f b (of xs)).enc = true := vldB_true.2 ⟨by rw [enc_len]; omega, _, rfl, b1⟩
  rw [g1, g2]
  obtain ⟨e1, e2⟩ := mulRow_val h2 v1
  rw [of_enc, hy] at e1 e2
  have e3 : mulRow ys (quo m f b (of xs)).enc = (back m f b (of xs)).enc := by rw [e1]; exact if_pos hbv
  rw [e3]
  obtain ⟨a1, a2⟩ := addRow_val hbv v2
  rw [of_enc, of_enc, d2] at a1 a2
  refine ⟨by rw [e2]; exact hbv, by rw [a2, enc_of h1, h1], by rw [a1, fit, enc_of h1, if_pos h1], ?_⟩
  rw [cmpRow_val v2 h2, of_enc, hy, d1]

end T
end Go.Proofs.Ytaleaagnkfbhpab

/- MulJ -/
/- The program's OrdTimes. -/
namespace Go.Proofs.Ytaleaagnkfbhpab
open Go.RowKit

def MulLoop (w : World) (m : Int) (p a t : T) (gk : Nat) (v7 v32 : Value) (wr : World) : Prop :=
  ∃ (i : Nat) (d u q : T) (cs : List Value) (a7 : Option Addr) (c7 qn : Nat), v32 = .int .i64 i ∧ gk + i = t.cnt ∧ d.app u = t ∧ d.cnt = i ∧ T.mulT m p a t = q.app (T.mulT m p a u) ∧ q.cnt = qn ∧ qn ≤ i ∧ v7 = .slice a7 qn c7 ∧
    wr.ownsRow w.heap.size 53 2 v7 qn cs ∧ TF wr v7.ownBlock q cs ∧ Below w.heap.size w wr

theorem mul_zero_row : T.fit .z = [0] ∧ T.vldB (T.z).enc = true ∧ T.num' 0 = [0] := by
  have h1 : T.vldB (T.z).enc = true := T.vldB_true.2 ⟨by decide, _, rfl, trivial⟩
  exact ⟨by rw [T.fit, if_pos h1]; rfl, h1, rfl⟩

theorem vld_enc {t : T} (h1 : t.Nf) (h2 : t.enc.length ≤ 60) : T.vldB t.enc = true := T.vldB_true.2 ⟨h2, t, rfl, h1⟩

/-- The number of one term of those that are there. -/
theorem mul_part {m : Int} {p a t q u : T} {n : Int} {f r : T} (h : T.mulT m p a t = q.app (T.mulT m p a u)) (hu : u = .c n f r) (hf : f ≠ .z) : T.mulT m p a t = q.app (.c n (T.add p f) (T.mulT m p a r)) := by
  rw [h, hu, T.mulT_pos _ _ _ _ _ hf]

set_option maxRecDepth 100000 in
set_option maxHeartbeats 4000000 in
theorem impl_OrdTimes (a1 a2 : Option Addr) (n1 c1 n2 c2 : Nat) (xs ys : List Int) (w : World) (hx : Sl w a1 n1 c1 xs) (hy : Sl w a2 n2 c2 ys) :
    Calls Try.prog 16 #[.slice a1 n1 c1, .slice a2 n2 c2] w (OrdOkPost w (T.mulRow xs ys) (T.mulOk xs ys)) := by
  obtain ⟨i0, hi, hz0, hz1, hz2⟩ := info_parts info_term
  have HX := Lib.hid hx
  have HY := Lib.hid hy
  rcases vld_tf xs with h1 | h1
  · have k1 := Lib.hid (impl_valid a1 n1 c1 xs w hx h1)
    rcases vld_tf ys with h2 | h2
    · obtain ⟨e1, e2⟩ := T.mulRow_val h1 h2
      rw [e1, e2]
      obtain ⟨b1, o1, s, rfl, rfl, hs, hos, hat1, hn1, hl1, hp1, hcc1, hm1⟩ := hx.valid h1
      obtain ⟨b2, o2, t, rfl, rfl, ht, hot, hat2, hn2, hl2, hp2, hcc2, hm2⟩ := hy.valid h2
      rw [hos, hot]
      have Hn1 := Lib.hid hn1
      have Hn2 := Lib.hid hn2
      have HA1 := Lib.hid hat1
      have HA2 := Lib.hid hat2
      have HS := Lib.hid hs
      have HT := Lib.hid ht
      have H2v := Lib.hid h2
      have hle1 : s.enc.length ≤ 60 := by omega
      have hle2 : t.enc.length ≤ 60 := by omega
      have hle3 : (T.mul s t).enc.length ≤ 10000000 := T.mul_len s t (by omega) (by omega)
      clear hx hy h1 h2 e1 e2 hos hot hat1 hat2 hs ht hn1 hn2
      go_enter Try.func16, Try.ntmps16
      go_wp2_with fail
      refine (k1.out).mono ?_
      rintro ee w1 ⟨rfl, hb1⟩
      have Hb1 := Lib.hid hb1
      have k2 := Lib.hid (impl_valid (some ⟨b2, o2, none⟩) n2 c2 t.enc w1 (HY.out.below hb1) H2v.out)
      clear hb1
      go_wp2_with fail
      refine (k2.out).mono ?_
      rintro ee w2 ⟨rfl, hb2⟩
      have Hb2 := Lib.hid (Hb1.out.trans (hb2.mono Hb1.out.size))
      have HA1w := Lib.hid (HA1.out.below Hb2.out (HA1.out.lt (T.enc_ne s)))
      have HA2w := Lib.hid (HA2.out.below Hb2.out (HA2.out.lt (T.enc_ne t)))
      have kz1 := Lib.hid (isZero_any b1 o1 n1 c1 (s.cnt : Int) w2 hp1 HA1w.out.head)
      have kz2 := Lib.hid (isZero_any b2 o2 n2 c2 (t.cnt : Int) w2 hp2 HA2w.out.head)
      clear hb2
      go_wp2_with fail
      refine (kz1.out).mono ?_
      rintro ee w3 ⟨rfl, rfl⟩
      have k0 := Lib.hid (impl_OrdOf 0 w2 (by decide) (by decide))
      rw [mul_zero_row.2.2] at k0
      cases s with
      | z =>
        have hz : (((T.z).cnt : Nat) : Int) = 0 := rfl
        rw [hz]
        go_wp2_with fail
        refine (k0.out).mono ?_
        rintro ee w4 ⟨a4, c4, rfl, ho4, hb4⟩
        have hfin : OrdOkPost w (T.fit (T.mul .z t)) (T.vldB (T.mul .z t).enc) (.returned (.tuple #[.slice a4 1 c4, .bool true])) w4 := by
          rw [T.z_mul, mul_zero_row.1, mul_zero_row.2.1]
          exact ⟨a4, c4, rfl, Joins.ownsRow_le ho4 Hb2.out.size, Hb2.out.trans (hb4.mono Hb2.out.size)⟩
        have Hfin := Lib.hid hfin
        clear ho4 hb4 hfin
        go_wp2_with fail
        go_ret2
        exact Hfin.out
      | c m p a =>
        have hz : ((((T.c m p a).cnt : Nat) : Int) == 0) = false := by simp [T.cnt]; omega
        have Hz := Lib.hid hz
        clear hz
        rw [Hz.out]
        go_wp2_with fail
        refine (kz2.out).mono ?_
        rintro ee w3 ⟨rfl, rfl⟩
        by_cases htz : t = .z
        · subst htz
          have hz : (((T.z).cnt : Nat) : Int) = 0 := rfl
          rw [hz]
          go_wp2_with fail
          refine (k0.out).mono ?_
          rintro ee w4 ⟨a4, c4, rfl, ho4, hb4⟩
          have hfin : OrdOkPost w (T.fit (T.mul (.c m p a) .z)) (T.vldB (T.mul (.c m p a) .z).enc) (.returned (.tuple #[.slice a4 1 c4, .bool true])) w4 := by
            rw [T.mul_z, mul_zero_row.1, mul_zero_row.2.1]
            exact ⟨a4, c4, rfl, Joins.ownsRow_le ho4 Hb2.out.size, Hb2.out.trans (hb4.mono Hb2.out.size)⟩
          have Hfin := Lib.hid hfin
          clear ho4 hb4 hfin
          go_wp2_with fail
          go_ret2
          exact Hfin.out
        · have hz : (((t.cnt : Nat) : Int) == 0) = false := by
            cases t with
            | z => exact absurd rfl htz
            | c n0 q0 r0 => simp [T.cnt]; omega
          have Hz2 := Lib.hid hz
          clear hz htz
          rw [Hz2.out]
          have k3 := Lib.hid (termsOf_any b1 o1 n1 c1 (T.c m p a).enc (T.c m p a) w2 Hn1.out.symm (by omega) hcc1 hm1 HA1w.out rfl)
          go_wp2_with fail
          refine (k3.out).mono ?_
          rintro ee w3 ⟨cs, rfl, ho3, ht3, hb3⟩
          have Hb3 := Lib.hid (Hb2.out.trans (hb3.mono Hb2.out.size))
          have Hz3 := Lib.hid (Tz.of_own ho3 ht3 rfl)
          have k4 := Lib.hid (termsOf_any b2 o2 n2 c2 t.enc t w3 Hn2.out.symm (by omega) hcc2 hm2 (HA2.out.below Hb3.out (HA2.out.lt (T.enc_ne t))) rfl)
          clear ho3 ht3 hb3
          go_wp2_with fail
          refine (k4.out).mono ?_
          rintro ee w4 ⟨ds, rfl, ho4, ht4, hb4⟩
          have Hb4 := Lib.hid (Hb3.out.trans (hb4.mono Hb3.out.size))
          have Hz3' := Lib.hid (Hz3.out.below hb4)
          have Hz4 := Lib.hid (Tz.of_own ho4 ht4 rfl)
          have hs34 := hb4.size
          obtain ⟨be, oe, ce, cs', rfl, hate, hce, hcem, hTa⟩ := Hz3'.out.2.2.2.1
          have Hate := Lib.hid hate
          have HTa := Lib.hid hTa
          have hg3 : w2.heap.size < w4.heap.size := Hz3'.out.2.2.2.2.1
          have hg4 : w3.heap.size < w4.heap.size := Hz4.out.2.2.2.2.1
          obtain ⟨na, hna⟩ : ∃ na, na = (T.c m p a).cnt := ⟨_, rfl⟩
          obtain ⟨nt, hnt⟩ : ∃ nt, nt = t.cnt := ⟨_, rfl⟩
          have hna0 : 0 < na := by rw [hna]; simp [T.cnt]
          have hnab : na ≤ 60 := by have := T.cnt_le (T.c m p a); have := T.enc_len (T.c m p a); omega
          have hntb : nt ≤ 60 := by have := T.cnt_le t; have := T.enc_len t; omega
          have hpl : p.enc.length ≤ 60 := by have h1 := T.enc_len (T.c m p a); rw [T.body_c, List.length_cons, List.length_append] at h1; omega
          have x3 : w4.cell? ⟨w2.heap.size, 0, none⟩ = some (.int .i64 m) := Hz3'.out.2.2.2.2.2 0 (by omega)
          have x3' : w4.cell? ⟨w2.heap.size, 1, none⟩ = some (.slice (some ⟨be, oe, none⟩) p.enc.length ce) := Hz3'.out.2.2.2.2.2 1 (by omega)
          have Hmb := Lib.hid (show 1 ≤ m ∧ m ≤ 9999 from ⟨HS.out.1, HS.out.2.1⟩)
          have Hpn := Lib.hid HS.out.2.2.1
          obtain ⟨res, hres⟩ : ∃ res, res = T.mul (.c m p a) t := ⟨_, rfl⟩
          have hmulT : T.mulT m p a t = res := hres.symm
          have Hfin0 := Lib.hid hmulT
          rw [← hna, ← hnt]
          have hle4 : res.enc.length ≤ 10000000 := by rw [hres]; exact hle3
          have Hna := Lib.hid hna
          have Hnt := Lib.hid hnt
          have Hres := Lib.hid hres
          clear ho4 ht4 hb4 hate hTa hna hnt hres hmulT
          go_wp2_with fail
          go_loopg [7, 32] nt (fun gk v7 v32 wr => MulLoop w4 m p a t gk v7 v32 wr)
          case atStart => exact ⟨0, .z, t, .z, [], none, 0, 0, rfl, Hnt.out, rfl, rfl, rfl, rfl, Nat.le_refl _, rfl, ⟨rfl, .inl ⟨rfl, rfl⟩⟩, rfl, Below.refl _ _⟩
          case round =>
            obtain ⟨i, d, u, q, qs, a7, c7, qn, rfl, hgk, hdu, hdi, hmu, hqn, hqi, rfl, ho, hTF, hbw⟩ := hrel
            have Hgk := Lib.hid hgk
            have Hdu := Lib.hid hdu
            have Hdi := Lib.hid hdi
            have Hmu := Lib.hid hmu
            have Hqn := Lib.hid hqn
            have Ho := Lib.hid ho
            have HTF := Lib.hid hTF
            have Hbw := Lib.hid hbw
            have hws := hbw.size
            have hcnt : nt = i + u.cnt := by rw [Hnt.out, ← hdu, T.app_cnt, hdi]
            have Hcnt := Lib.hid hcnt
            have hup : i < nt → 0 < u.cnt := fun h => by omega
            have hiu : ¬ i < nt → u.cnt = 0 := fun h => by have := Hgk.out; omega
            have hqb : qn ≤ 60 := by omega
            clear hgk hdu hdi hmu hqn ho hTF hbw hcnt
            by_cases hlt : i < nt
            · obtain ⟨n, f, r, hu⟩ : ∃ n f r, u = .c n f r := T.cnt_pos (hup hlt)
              subst hu
              have hback := Hz4.out.2.2.2.1
              rw [← Hdu.out] at hback
              obtain ⟨bf, of, cf, ds', hds, hatf, hcf, hcfm, _⟩ := hback.back
              have hdl := Hz4.out.2.2.2.1.length
              have y0 : wr.cell? ⟨w3.heap.size, i * 2, none⟩ = some (.int .i64 n) := by
                rw [Hbw.out.cell (p := ⟨w3.heap.size, i * 2, none⟩) hg4, Hz4.out.2.2.2.2.2 (i * 2) (by have := Hnt.out; omega)]
                have h1 := congrArg (fun l => l[0]?) hds
                simp only [List.getElem?_drop, Hdi.out] at h1
                rw [show i * 2 = 2 * i + 0 by omega, h1]; rfl
              have y1 : wr.cell? ⟨w3.heap.size, i * 2 + 1, none⟩ = some (.slice (some ⟨bf, of, none⟩) f.enc.length cf) := by
                rw [Hbw.out.cell (p := ⟨w3.heap.size, i * 2 + 1, none⟩) hg4, Hz4.out.2.2.2.2.2 (i * 2 + 1) (by have := Hnt.out; omega)]
                have h1 := congrArg (fun l => l[1]?) hds
                simp only [List.getElem?_drop, Hdi.out] at h1
                rw [show i * 2 + 1 = 2 * i + 1 by omega, h1]; rfl
              have hnfu : n ≥ 1 ∧ n ≤ 9999 ∧ f.Nf ∧ f.enc.length ≤ 60 := by
                have h1 := HT.out
                rw [← Hdu.out] at h1
                have h2 := T.nf_last h1
                refine ⟨h2.1, h2.2.1, h2.2.2, ?_⟩
                have h3 := T.enc_len t
                rw [← Hdu.out, T.app_body, T.body_c, Hdu.out] at h3
                simp at h3
                omega
              have Hnf := Lib.hid hnfu
              have hfl : f.enc.length ≤ 60 := hnfu.2.2.2
              have Hatf := Lib.hid (hatf.below Hbw.out (hatf.lt (T.enc_ne f)))
              have Hcf := Lib.hid (And.intro hcf hcfm)
              have hbB : Below wr.heap.size wr (wr.alloc (.cells #[.int .i64 n, .slice (some ⟨bf, of, none⟩) f.enc.length cf] 53)) := (Below.refl _ _).alloc (Nat.le_refl _) _
              have HbB := Lib.hid hbB
              have Hatb := Lib.hid (Hatf.out.below hbB (Hatf.out.lt (T.enc_ne f)))
              have kz := Lib.hid (isZero_any bf of f.enc.length cf (f.cnt : Int) _ (by rw [T.enc_len]; omega) Hatb.out.head)
              clear hback hds hatf hcf hcfm hdl hnfu hbB hup hiu
              by_cases hf : f = .z
              · have hzf : (((f.cnt : Nat) : Int) == 0) = true := by rw [hf]; rfl
                rw [hzf] at kz
                have hmn : 0 ≤ m * n ∧ m * n ≤ 9999 * 9999 := ⟨Int.mul_nonneg (by have := Hmb.out.1; omega) (by have := Hnf.out.1; omega), Int.mul_le_mul Hmb.out.2 Hnf.out.2.1 (by have := Hnf.out.1; omega) (by omega)⟩
                have kn := Lib.hid (timesNumber_any w2.heap.size na na be oe ce m n p a cs' _ (by have h1 := Hz3'.out.below (Hbw.out.trans (HbB.out.mono hws)); rw [← Hna.out] at h1; exact h1) (by omega) (by omega) (by omega))
                have Hf := Lib.hid hf
                clear hf hzf
                go_wp2_with fail
                refine (kz.out).mono ?_
                rintro ee wz ⟨rfl, rfl⟩
                go_wp2_with fail
                refine (kn.out).mono ?_
                rintro ee w5 ⟨g5, c5, rfl, ho5, hb5⟩
                have hb5' := HbB.out.trans (hb5.mono HbB.out.size)
                have HO5 := Lib.hid (ownsRow_below' Ho.out hb5')
                have hTC : TC w4 (.c (m * n) p a) (.int .i64 (m * n) :: .slice (some ⟨be, oe, none⟩) p.enc.length ce :: cs') := ⟨be, oe, ce, cs', rfl, Hate.out, hce, hcem, HTa.out⟩
                have H1 := Lib.hid hTC.one
                have HL := Lib.hid (show (Value.int .i64 (m * n) :: .slice (some ⟨be, oe, none⟩) p.enc.length ce :: cs').length = na * 2 by have h1 := hTC.length; have h2 := Hna.out; simp only [T.cnt] at h1 h2; omega)
                have HT5 := Lib.hid ((HTF.out.below hb5').join ((hTC.tf (r := (Value.slice a7 qn c7).ownBlock) (fun k e => (Ho.out.lt k e).1)).below (Hbw.out.trans (hb5'.mono hws))))
                have HN := Lib.hid (ho5.cells (g := g5) rfl)
                have Hb5 := Lib.hid (Hbw.out.trans (hb5'.mono hws))
                have hw5 := Hb5.out.size
                clear ho5 hb5 hb5' hTC
                go_wp2_with (first
                  | (at_builtin; refine wpList_append_own_at _ rfl (.tmp 39) (.tmp 43) 44 rfl w4.heap.size 53 i0 _ 2 32 Try.underlying44 hi hz0 hz1 hz2 rfl (by decide) _ qn qs rfl HO5.out ⟨g5, 0, none⟩ na c5 _ rfl HL.out HN.out H1.out (by unfold maxLen; omega) (by omega) (by omega) ?_; intro v6 w6 ho6 hg6 _ _))
                obtain ⟨a6, c6, rfl⟩ := own_shape ho6
                have hrt : q.app (.c (m * n) p a) = res := by rw [← Hfin0.out, Hmu.out, Hf.out, T.mulT_zero]
                have hT6 := (HT5.out.go hg6 (fun _ _ => .inl rfl) (fun _ _ => .inl rfl)).tc
                have hb6 := Hb5.out.grown hg6 (by omega) (fun k e => (HO5.out.lt k e).1)
                have htm := Tm.of_own ho6 hT6 (by rw [T.app_cnt, Hqn.out]; have h2 := Hna.out; simp only [T.cnt] at h2 ⊢; omega)
                rw [hrt] at htm
                have k6 := Lib.hid (fittingOrd_any a6 (qn + na) c6 res w6 (by omega) htm)
                have Hb6 := Lib.hid hb6
                clear ho6 hg6 hrt hT6 hb6 htm
                go_wp2_with fail
                refine (k6.out).mono ?_
                rintro ee w7 ⟨a7', c7', rfl, ho7, hb7⟩
                have hfin : OrdOkPost w (T.fit (T.mul (.c m p a) t)) (T.vldB (T.mul (.c m p a) t).enc) (.returned (.tuple #[.slice a7' (T.fit res).length c7', .bool (T.vldB res.enc)])) w7 := by
                  rw [← Hres.out]
                  exact ⟨a7', c7', rfl, Joins.ownsRow_le ho7 (Nat.le_trans Hb4.out.size Hb6.out.size), Hb4.out.trans ((Hb6.out.trans (hb7.mono Hb6.out.size)).mono Hb4.out.size)⟩
                have Hfin := Lib.hid hfin
                clear ho7 hb7 hfin
                go_wp2_with fail
                go_ret2
                exact Hfin.out
              · have hzf : (((f.cnt : Nat) : Int) == 0) = false := by
                  cases f with
                  | z => exact absurd rfl hf
                  | c n' f' r' => simp [T.cnt]; omega
                rw [hzf] at kz
                have Hf := Lib.hid hf
                clear hf hzf
                go_upto_region 12 with fail
                refine (kz.out).mono ?_
                rintro ee wz ⟨rfl, rfl⟩
                go_upto_region 12 with fail
                obtain ⟨wb, hwb⟩ : ∃ wb, wb = wr.alloc (.cells #[.int .i64 n, .slice (some ⟨bf, of, none⟩) f.enc.length cf] 53) := ⟨_, rfl⟩
                have hBs : wr.heap.size < wb.heap.size := by rw [hwb, World.size_alloc]; omega
                have z0 : wb.cell? ⟨wr.heap.size, 0, none⟩ = some (.int .i64 n) := by rw [hwb, Joins.cell_alloc_mark_at _ _ _ _ _ _ rfl]; rfl
                have z1 : wb.cell? ⟨wr.heap.size, 1, none⟩ = some (.slice (some ⟨bf, of, none⟩) f.enc.length cf) := by rw [hwb, Joins.cell_alloc_mark_at _ _ _ _ _ _ rfl]; rfl
                rw [← hwb] at HbB Hatb ⊢
                have z3 : wb.cell? ⟨w2.heap.size, 1, none⟩ = some (.slice (some ⟨be, oe, none⟩) p.enc.length ce) := ((Hbw.out.trans (HbB.out.mono hws)).cell (p := ⟨w2.heap.size, 1, none⟩) hg3).trans x3'
                have hdr : Below wb.heap.size wb wb.drew := (Below.refl _ _).drew
                have hSp : Sl wb.drew (some ⟨be, oe, none⟩) p.enc.length ce p.enc := ⟨rfl, hce, hcem, fun _ => ⟨be, oe, rfl, Hate.out.below ((Hbw.out.trans (HbB.out.mono hws)).drew) (Hate.out.lt (T.enc_ne p))⟩⟩
                have hSf : Sl wb.drew (some ⟨bf, of, none⟩) f.enc.length cf f.enc := ⟨rfl, Hcf.out.1, Hcf.out.2, fun _ => ⟨bf, of, rfl, Hatb.out.below hdr (Hatb.out.lt (T.enc_ne f))⟩⟩
                have ka := Lib.hid (impl_OrdAdd (some ⟨be, oe, none⟩) (some ⟨bf, of, none⟩) p.enc.length ce f.enc.length cf p.enc f.enc wb.drew hSp hSf)
                have hvp := vld_enc Hpn.out hpl
                have hvf := vld_enc Hnf.out.2.2.1 hfl
                obtain ⟨er, eo⟩ := T.addRow_val hvp hvf
                rw [T.of_enc, T.of_enc] at er eo
                unfold OrdOkPost at ka
                rw [er, eo] at ka
                have hnapos : (0 : Int) < (na : Int) := by omega
                clear hwb hdr hSp hSf hvp hvf er eo
                have hg3b : w2.heap.size < wb.heap.size := by omega
                go_upto_region 12 with fail
                go_region_held3 (fun w' => w'.cell? ⟨w2.heap.size, 1, none⟩ = some (.slice (some ⟨be, oe, none⟩) p.enc.length ce) ∧ w'.cell? ⟨wr.heap.size, 1, none⟩ = some (.slice (some ⟨bf, of, none⟩) f.enc.length cf)) (first | go_keep | exact ⟨kS0, kS1⟩)
                  (first
                    | (go_at_call 13; (with_reducible refine (ka.out).mono ?_); rintro ee w5 ⟨aN, cN, rfl, hoN, hbN⟩; have kS0 := (hbN.cell (p := ⟨w2.heap.size, 1, none⟩) hg3b).trans z3; have kS1 := (hbN.cell (p := ⟨wr.heap.size, 1, none⟩) hBs).trans z1))
                have hbr5 := HbB.out.drew.trans (hbN.mono HbB.out.drew.size)
                have Hbr5 := Lib.hid hbr5
                have Hb5 := Lib.hid (Hbw.out.trans (hbr5.mono hws))
                have hw5 := Hb5.out.size
                have z0' := (hbN.cell (p := ⟨wr.heap.size, 0, none⟩) hBs).trans z0
                have HoN := Lib.hid hoN
                have hsN : wb.heap.size ≤ w5.heap.size := hbN.size
                clear hbN hoN z0 z1 z3 hbr5
                rcases vld_tf (T.add p f).enc with hv | hv
                · have hfit : T.fit (T.add p f) = (T.add p f).enc := by rw [T.fit, if_pos hv]
                  rw [hfit] at HoN ⊢
                  rw [hv]
                  obtain ⟨L, hL⟩ : ∃ L, L = (T.add p f).enc.length := ⟨_, rfl⟩
                  rw [← hL] at HoN ⊢
                  have hL0 : 0 < L := by rw [hL, T.enc_len]; omega
                  obtain ⟨gN, cN', hform⟩ := Joins.ownsRow_form HoN.out hL0
                  simp only [Value.slice.injEq] at hform
                  obtain ⟨rfl, _, rfl⟩ := hform
                  have hslN := Sl.of_own HoN.out
                  obtain ⟨bN, oN, heN, hatN⟩ := hslN.2.2.2 hL0
                  simp only [Option.some.injEq, Addr.mk.injEq, and_true] at heN
                  obtain ⟨rfl, rfl⟩ := heN
                  have HatN := Lib.hid hatN
                  have HcN := Lib.hid (And.intro hslN.2.1 hslN.2.2.1)
                  have hgNb : wr.heap.size ≤ gN := by have h1 := (HoN.out.lt gN rfl).1; have h2 : wb.drew.heap.size = wb.heap.size := rfl; omega
                  have HO5 := Lib.hid (ownsRow_below' Ho.out Hbr5.out)
                  have HT5 := Lib.hid (HTF.out.below Hbr5.out)
                  have HLh := Lib.hid hL
                  clear hv hfit hL hslN hatN
                  go_wp2_with (first
                    | (at_builtin; refine wpList_append_own_at _ rfl (.tmp 57) (.tmp 62) 44 rfl w4.heap.size 53 i0 _ 2 32 Try.underlying44 hi hz0 hz1 hz2 rfl (by decide) _ qn qs rfl (HO5.out.alloc _) ⟨w5.heap.size, 0, none⟩ 1 1 [.int .i64 n, .slice (some ⟨gN, 0, none⟩) L cN] rfl rfl (cell_two_new _ _ _ _) (two_one _ _ rfl rfl) (by unfold maxLen; omega) (by omega) (by simp; omega) ?_; intro v6 w6 ho6 hg6 _ hat6))
                  obtain ⟨a6, c6, rfl⟩ := own_shape ho6
                  have hfin : MulLoop w4 m p a t (gk - 1) (.slice a6 (qn + 1) c6) (.int .i64 ((i : Int) + 1)) w6 := by
                    have hTa := (HT5.out.below ((Below.refl w5.heap.size w5).alloc (Nat.le_refl _) (.cells #[.int .i64 n, .slice (some ⟨gN, 0, none⟩) L cN] 53))).snoc (n := n)
                      (HatN.out.alloc (T.enc_ne (T.add p f)) _) (own_row_lt Ho.out hgNb) (by have := HcN.out.1; have := HLh.out; omega) HcN.out.2
                    rw [← HLh.out] at hTa
                    refine ⟨i + 1, d.app (.c n f .z), r, q.app (.c n (T.add p f) .z), _, a6, c6, qn + 1, by go_num, by have := Hgk.out; have := Hnt.out; omega, by rw [T.app_assoc]; exact Hdu.out, by rw [T.app_cnt, Hdi.out]; rfl, ?_, by rw [T.app_cnt, Hqn.out]; rfl, by omega, rfl, ho6,
                      hTa.go hg6 (fun _ _ => .inl rfl) (fun k e => ?_), (Hb5.out.alloc hw5 _).grown hg6 (by simp; omega) (fun k e => (HO5.out.lt k e).1)⟩
                    · rw [T.app_assoc]; exact mul_part Hmu.out rfl Hf.out
                    · rcases hat6 with h | h
                      · exact .inl h
                      · right
                        rw [h] at e
                        cases e
                        exact Nat.le_refl _
                  have Hfin := Lib.hid hfin
                  clear ho6 hg6 hat6 hfin
                  go_roundg (gk - 1)
                  case measure => have := Hgk.out; have := Hnt.out; omega
                  case rel => exact Hfin.out
                · have hfit : T.fit (T.add p f) = [] := by rw [T.fit, if_neg (by rw [hv]; simp)]
                  have hbad : T.vldB (T.mul (.c m p a) t).enc = false := by
                    rw [← Hres.out, ← Hfin0.out, mul_part Hmu.out rfl Hf.out]
                    rcases vld_tf (q.app (.c n (T.add p f) (T.mulT m p a r))).enc with h1 | h1
                    · rw [T.vld_part h1] at hv; cases hv
                    · exact h1
                  have hfit2 : T.fit (T.mul (.c m p a) t) = [] := by rw [T.fit, if_neg (by rw [hbad]; simp)]
                  have hfin : ∀ wx, w5 = wx → OrdOkPost w (T.fit (T.mul (.c m p a) t)) (T.vldB (T.mul (.c m p a) t).enc) (.returned (.tuple #[.slice none 0 0, .bool false])) wx := by
                    rintro wx rfl
                    rw [hfit2, hbad]
                    exact OrdOkPost.nil (nil_own w w5) (Hb4.out.trans (Hb5.out.mono Hb4.out.size))
                  have Hfin := Lib.hid hfin
                  rw [hfit, hv]
                  clear hfit hbad hfit2 hfin hv
                  go_wp2_with fail
                  go_ret2
                  exact Hfin.out _ rfl
            · have hu : u = .z := T.cnt_zero (hiu hlt)
              subst hu
              have hrt : q = res := by rw [← Hfin0.out, Hmu.out]; show q = q.app .z; rw [T.app_z]
              have htm := Tm.of_own Ho.out (HTF.out.tc) Hqn.out.symm
              rw [hrt] at htm
              have k6 := Lib.hid (fittingOrd_any a7 qn c7 res wr (by omega) htm)
              have hle : nt ≤ i := by omega
              clear hrt htm hup hiu
              go_wp2_with fail
              refine (k6.out).mono ?_
              rintro ee w7 ⟨a7', c7', rfl, ho7, hb7⟩
              have hfin : OrdOkPost w (T.fit (T.mul (.c m p a) t)) (T.vldB (T.mul (.c m p a) t).enc) (.returned (.tuple #[.slice a7' (T.fit res).length c7', .bool (T.vldB res.enc)])) w7 := by
                rw [← Hres.out]
                exact ⟨a7', c7', rfl, Joins.ownsRow_le ho7 (Nat.le_trans Hb4.out.size Hbw.out.size), Hb4.out.trans ((Hbw.out.trans (hb7.mono Hbw.out.size)).mono Hb4.out.size)⟩
              have Hfin := Lib.hid hfin
              clear ho7 hb7 hfin
              go_wp2_with fail
              go_ret2
              exact Hfin.out
    · obtain ⟨e1, e2⟩ := T.mulRow_bad (xs := xs) (.inr h2)
      rw [e1, e2]
      have H2v := Lib.hid h2
      clear hx hy h1 h2 e1 e2
      go_enter Try.func16, Try.ntmps16
      go_wp2_with fail
      refine (k1.out).mono ?_
      rintro ee w1 ⟨rfl, hb1⟩
      have Hb1 := Lib.hid hb1
      have k2 := Lib.hid (impl_valid a2 n2 c2 ys w1 (HY.out.below hb1) H2v.out)
      clear hb1
      go_wp2_with fail
      refine (k2.out).mono ?_
      rintro ee w2 ⟨rfl, hb2⟩
      have Hb2 := Lib.hid (Hb1.out.trans (hb2.mono Hb1.out.size))
      clear hb2
      go_wp2_with fail
      go_ret2
      exact OrdOkPost.nil (nil_own w w2) Hb2.out
  · have k1 := Lib.hid (impl_valid a1 n1 c1 xs w hx h1)
    obtain ⟨e1, e2⟩ := T.mulRow_bad (ys := ys) (.inl h1)
    rw [e1, e2]
    clear hx hy h1 e1 e2
    go_enter Try.func16, Try.ntmps16
    go_wp2_with fail
    refine (k1.out).mono ?_
    rintro ee w1 ⟨rfl, hb1⟩
    have Hb1 := Lib.hid hb1
    clear hb1
    go_wp2_with fail
    go_ret2
    exact OrdOkPost.nil (nil_own w w1) Hb1.out

end Go.Proofs.Ytaleaagnkfbhpab

/- DrawD -/
/- What FnOrdDivide draws, with how long it is at most. -/
namespace Go.Proofs.Ytaleaagnkfbhpab
open Go.RowKit

theorem rd_lt {w : World} {g P : Nat} (h : RdOk w g P) : g < w.heap.size := by obtain ⟨_, _, _, _, h1, _⟩ := h; exact (Array.getElem?_eq_some_iff.1 h1).1

theorem odd_one (g P : Nat) (w : World) (hP : P ≤ 1000000000) (h : RdOk w g P) :
    Calls Try.prog 65 #[.pointer (some ⟨g, 0, none⟩), .int .i64 1] w fun e w' => e = .returned (.bool true) ∧ RdOk w' g (P + 1) ∧ w.grownBy w' (some g) := by
  have k := Lib.hid (pick_any g P 1 w hP (by decide) (by decide) h)
  have h1 : decide ((0 : Int) < 1) = true := rfl
  clear h
  go_enter Try.func65, Try.ntmps65
  go_wp2_with fail
  refine (k.out).mono ?_
  rintro ee w1 ⟨r, rfl, hr, h1, h2⟩
  have hr0 := hr.1
  have hr1 := hr.2.1 (by decide)
  have hrz : r = 0 := by omega
  subst hrz
  have H1 := Lib.hid h1
  have H2 := Lib.hid h2
  clear h1 h2 hr
  go_wp2_with fail
  go_ret
  exact ⟨rfl, H1.out, H2.out⟩

theorem T.not_vld {xs : List Int} (h : ∀ t : T, xs = t.enc → ¬ t.Nf) : T.vldB xs = false := by
  rw [T.vldB_false]
  rintro ⟨_, t, h1, h2⟩
  exact h t h1 h2
theorem bad_nil : T.vldB [] = false := T.not_vld fun t h => by cases h
theorem bad_more (t : T) : T.vldB (t.enc ++ [0]) = false := T.not_vld fun s h => by
  have h1 := (T.enc_inj (s := t) (t := s) (r₁ := [0]) (r₂ := []) (by rw [List.append_nil]; exact h)).2
  cases h1
theorem bad_two : T.vldB [2, 1, 0, 1, 1, 1, 0] = false := T.not_vld fun s h => by
  have h1 : (T.c 1 .z (.c 1 (.c 1 .z .z) .z)) = s := T.enc_inj' h
  subst h1
  rintro ⟨_, _, _, _, h2⟩
  rw [T.ok_c] at h2
  simp [T.cmp] at h2
theorem bad_none : T.vldB [1, 0, 0] = false := T.not_vld fun s h => by
  have h1 : (T.c 0 .z .z) = s := T.enc_inj' h
  subst h1
  rintro ⟨h2, _⟩
  omega
theorem bad_many : T.vldB [1, 10000, 0] = false := T.not_vld fun s h => by
  have h1 : (T.c 10000 .z .z) = s := T.enc_inj' h
  subst h1
  rintro ⟨_, h2, _⟩
  omega

/-- A row that was drawn. -/
def OrdPostT (w : World) (g P : Nat) (od : Int) (e : Ending) (w' : World) : Prop :=
  ∃ (xs : List Int) (g' n c : Nat), n = xs.length ∧ e = .returned (.slice (some ⟨g', 0, none⟩) n c) ∧ w'.ownsRow w.heap.size 3 1 (.slice (some ⟨g', 0, none⟩) n c) n (ints xs) ∧
    n ≤ 44 ∧ (od = 1 → T.vldB xs = false) ∧ RdOk w' g (P + 2000) ∧ w.grownBy w' (some g)

def OrdRelT (w : World) (g P k : Nat) (v5 v6 : Value) (wr : World) : Prop :=
  ∃ (j : Nat) (t : T) (g1 c1 : Nat), v6 = .int .i64 j ∧ k + j = 4 ∧ v5 = .slice (some ⟨g1, 0, none⟩) t.enc.length c1 ∧ wr.ownsRow w.heap.size 3 1 v5 t.enc.length (ints t.enc) ∧
    (t.enc.length ≤ 140 ∧ (0 < j → t.enc.length ≤ 43)) ∧ RdOk wr g (P + 200 + j * 61) ∧ w.grownBy wr (some g)

def OrdCutT (w : World) (g P : Nat) (v5 : Value) (wx : World) : Prop :=
  ∃ (t : T) (xs : List Int) (g1 n c1 : Nat), xs = t.enc ∧ n = xs.length ∧ v5 = .slice (some ⟨g1, 0, none⟩) n c1 ∧ wx.ownsRow w.heap.size 3 1 v5 n (ints xs) ∧ n ≤ 43 ∧ RdOk wx g (P + 444) ∧ w.grownBy wx (some g)

theorem OrdRelT.cut {w wr : World} {g P k : Nat} {v5 v6 : Value} (h : OrdRelT w g P k v5 v6 wr) (h9 : ∀ (t : T) (g1 c1 : Nat), v5 = .slice (some ⟨g1, 0, none⟩) t.enc.length c1 → t.enc.length ≤ 24 ∨ v6 = .int .i64 (4 : Nat)) : OrdCutT w g P v5 wr := by
  obtain ⟨j, t, g1, c1, rfl, hk, rfl, ho, hl, hr, hg⟩ := h
  have h8 : t.enc.length ≤ 43 := by
    rcases h9 t g1 c1 rfl with h | h
    · omega
    · simp only [Value.int.injEq, true_and] at h
      exact hl.2 (by omega)
  exact ⟨t, t.enc, g1, t.enc.length, c1, rfl, rfl, rfl, ho, h8, hr.mono (by omega), hg⟩

theorem ord_finT {w w7 w8 : World} {g P n g' c : Nat} {xs : List Int} (h0 : w.grownBy w7 (some g)) (hg : w7.grownBy w8 none) (hr : RdOk w7 g (P + 2000)) (hn : n = xs.length) {od : Int} (hl : n ≤ 44) (hod : T.vldB xs = false)
    (ho : w8.ownsRow w7.heap.size 3 1 (.slice (some ⟨g', 0, none⟩) n c) n (ints xs)) : OrdPostT w g P od (.returned (.slice (some ⟨g', 0, none⟩) n c)) w8 :=
  ⟨xs, g', n, c, hn, rfl, Joins.ownsRow_le ho h0.size, hl, (fun _ => hod), hr.kept hg (fun k hk => by cases hk), grownBy_step h0 hg (fun k hk => by cases hk)⟩

set_option maxHeartbeats 2000000 in
theorem l20OrdT_any (g P : Nat) (n : Int) (w : World) (hP : P ≤ 90000000) (hn0 : 0 ≤ n) (hn1 : n ≤ 1000000) (hrd : RdOk w g P) :
    Calls Try.prog 51 #[.pointer (some ⟨g, 0, none⟩), .int .i64 n] w (OrdPostT w g P n) := by
  obtain ⟨i0, hi, hz0, hz1, hz2⟩ := info_parts info_int
  have hgl : g < w.heap.size := by obtain ⟨_, _, _, _, h1, _⟩ := hrd; exact (Array.getElem?_eq_some_iff.1 h1).1
  have k3 := Lib.hid (l20Raw_any 4 3 g P w (by omega) (by omega) (by omega) hrd)
  clear hrd
  go_enter Try.func51, Try.ntmps51
  go_wp2_with fail
  refine (k3.out).mono ?_
  rintro ee w1 ⟨t1, g1, c1, rfl, ho1, hl1, hr1, hg1⟩
  have hst : OrdRelT w g P 4 (.slice (some ⟨g1, 0, none⟩) t1.enc.length c1) (.int .i64 0) w1 :=
    ⟨0, t1, g1, c1, rfl, rfl, rfl, ho1, ⟨Nat.le_trans hl1 (by decide), fun h => absurd h (by decide)⟩, hr1.mono (by simp [Cb]), hg1⟩
  have Hst := Lib.hid hst
  clear hst ho1 hl1 hr1 hg1
  go_upto_block 0 with fail
  go_cut [5] (fun v5 wx => OrdCutT w g P v5 wx)
  case first =>
    go_wp2_with fail
    go_loopg [5, 6] 4 (fun k v5 v6 wr => OrdRelT w g P k v5 v6 wr)
    case atStart => exact Hst.out
    case round =>
      have Hrel := Lib.hid hrel
      obtain ⟨j, t, g2, c2, rfl, hkj, rfl, ho, hl, hr, hg⟩ := hrel
      have Hkj := Lib.hid hkj
      have hj4 : j ≤ 4 := by omega
      by_cases hj : j < 4
      · by_cases hlen : 24 < t.enc.length
        · have k2 := Lib.hid (l20Raw_any 4 2 g (P + 200 + j * 61) wr (by omega) (by omega) (by omega) hr)
          have Hg := Lib.hid hg
          clear hkj ho hr hg
          go_wp2_with fail
          refine (k2.out).mono ?_
          rintro ee w2 ⟨t2, g3, c3, rfl, ho2, hl2, hr2, hg2⟩
          have hfin : OrdRelT w g P (gk - 1) (.slice (some ⟨g3, 0, none⟩) t2.enc.length c3) (.int .i64 ((j + 1 : Nat) : Int)) w2 :=
            ⟨j + 1, t2, g3, c3, rfl, by have := Hkj.out; omega, rfl, Joins.ownsRow_le ho2 Hg.out.size, ⟨Nat.le_trans hl2 (by decide), fun _ => Nat.le_trans hl2 (by decide)⟩, hr2.mono (by simp [Cb]; omega), grownBy_trans Hg.out hg2⟩
          have Hfin := Lib.hid hfin
          clear hfin ho2 hl2 hr2 hg2
          go_wp2_with fail
          go_roundg (gk - 1)
          case measure => have := Hkj.out; omega
          case rel => exact Hfin.out
        · clear hkj ho hr hg
          go_wp2_with fail
          go_meet
          exact OrdRelT.cut Hrel.out (fun t' g' c' h => .inl (by simp only [Value.slice.injEq] at h; omega))
      · clear hkj ho hr hg
        go_wp2_with fail
        go_meet
        exact OrdRelT.cut Hrel.out (fun t' g' c' h => .inr (by rw [show j = 4 by omega]))
  case rest =>
    obtain ⟨t, xs, g2, m, c2, hxt, hm, rfl, ho, hl, hr, hg⟩ := hcut
    have Hxt := Lib.hid hxt
    obtain ⟨w5, rfl⟩ : ∃ w5 : World, w5 = wc := ⟨_, rfl⟩
    have Hm := Lib.hid hm
    have Ho := Lib.hid ho
    have Hg := Lib.hid hg
    have Hr := Lib.hid hr
    have ko := Lib.hid (odd_any g (P + 444) n w5 (by omega) (by omega) (by omega) hr)
    have HK := Lib.hid (fun (h1 : n = 1) => odd_one g (P + 444) w5 (by omega) hr)
    clear hm ho hg hr hxt
    have ko' : Calls Try.prog 65 #[.pointer (some ⟨g, 0, none⟩), .int .i64 n] w5 fun e w' => ∃ r : Bool, e = .returned (.bool r) ∧ RdOk w' g (P + 444 + 1) ∧ w5.grownBy w' (some g) ∧ (r = false → n = 1 → T.vldB xs = false) := by
      by_cases h1 : n = 1
      · subst h1
        refine (HK.out rfl).mono ?_
        rintro ee w6 ⟨rfl, h2, h3⟩
        exact ⟨true, rfl, h2, h3, fun h => by cases h⟩
      · refine (ko.out).mono ?_
        rintro ee w6 ⟨b, rfl, h2, h3⟩
        exact ⟨b, rfl, h2, h3, fun _ h => absurd h h1⟩
    have KO := Lib.hid ko'
    clear ko'
    go_wp2_with fail
    refine (KO.out).mono ?_
    rintro ee w6 ⟨b, rfl, hr6, hg6, hbn⟩
    have Hbn := Lib.hid hbn
    clear hbn
    have Hg6 := Lib.hid (grownBy_trans Hg.out hg6)
    have Ho6 := Lib.hid (own_rd Ho.out hg6 hgl)
    have Hr6 := Lib.hid hr6
    clear hr6 hg6
    cases b with
    | false =>
      go_wp2_with fail
      go_ret
      exact ⟨xs, g2, m, c2, Hm.out, rfl, Ho6.out, by omega, Hbn.out (by first | exact rfl | exact trivial | simp), Hr6.out.mono (by omega), Hg6.out⟩
    | true =>
      have kp := Lib.hid (pick_any g (P + 444 + 1) 5 w6 (by omega) (by decide) (by decide) Hr6.out)
      go_wp2_with fail
      refine (kp.out).mono ?_
      rintro ee w7 ⟨r, rfl, hr7, hrd7, hg7⟩
      have hr70 := hr7.1
      have hr71 := hr7.2.1 (by decide)
      have Hg7 := Lib.hid (grownBy_trans Hg6.out hg7)
      have Ho7 := Lib.hid (own_rd Ho6.out hg7 hgl)
      have Hr7 := Lib.hid (hrd7.mono (show P + 444 + 1 + 1 ≤ P + 2000 by omega))
      clear hr7 hrd7 hg7
      have hcase : r = 0 ∨ r = 1 ∨ r = 2 ∨ r = 3 ∨ r = 4 := by omega
      rcases hcase with rfl | rfl | rfl | rfl | rfl
      · go_wp2_with fail
        go_ret
        exact ord_finT (xs := []) Hg7.out (World.grownBy_alloc w7 _ none) Hr7.out rfl (by decide) bad_nil (World.ownsRow_lit w7 #[] 0 (Nat.le_refl _) (by simp [maxLen]) rfl)
      · have HX := Lib.hid (show (ints xs).length = m * 1 by rw [ints_len]; have := Hm.out; omega)
        have HN := Lib.hid (show ∀ j u, (ints xs)[j]? = some u → (w7.alloc (.cells #[] 3)).cell? ((⟨g2, 0, none⟩ : Addr).add j) = some u from own_news Ho7.out)
        go_wp2_with (first
          | (at_builtin; refine wpList_append_own _ rfl (.tmp 31) (.tmp 32) 23 rfl w7.heap.size 3 i0 (.int .i64 0) 1 8 Try.underlying23 hi hz0 hz1 hz2 rfl (by decide) _ 0 [] rfl (World.ownsRow_lit w7 #[] 0 (Nat.le_refl _) (by simp [maxLen]) rfl) ⟨g2, 0, none⟩ m c2 (ints xs) rfl HX.out HN.out (ints_one _) (by unfold maxLen; omega) (by omega) (by simp) ?_; intro v1 w8 ho1 hg1 _)
          | (at_builtin; refine wpList_append_own _ rfl (.tmp 33) (.tmp 34) 23 rfl w7.heap.size 3 i0 (.int .i64 0) 1 8 Try.underlying23 hi hz0 hz1 hz2 rfl (by decide) _ m (ints xs) rfl ((own0 ho1).alloc _) ⟨w8.heap.size, 0, none⟩ 1 1 [.int .i64 0] rfl rfl (cell_one_new _ _ _) (ints_oneCell _ [0]) (by unfold maxLen; omega) (by omega) (by have h1 : w7.heap.size + 1 ≤ w8.heap.size := le_of_alloc' hg1; simp; omega) ?_; intro v2 w9 ho2 hg2 _))
        obtain ⟨g5, c5, rfl⟩ := Joins.ownsRow_form ho2 (by omega)
        have hgA := gn (gn (gn (World.grownBy_alloc w7 _ none) hg1 (fun r e => by cases e; exact Nat.le_refl _)) (World.grownBy_alloc w8 _ none) (fun r e => by cases e)) hg2 (fun r e => ((own0 ho1).lt r e).1)
        have hfin : OrdPostT w g P n (.returned (.slice (some ⟨g5, 0, none⟩) (m + 1) c5)) w9 :=
          ord_finT (xs := xs ++ [0]) Hg7.out hgA Hr7.out (by have := Hm.out; simp; omega) (by omega) (by rw [Hxt.out]; exact bad_more t) (by simpa [ints] using ho2)
        have Hfin := Lib.hid hfin
        clear hfin hgA ho1 hg1 ho2 hg2
        go_wp2_with fail
        go_ret
        exact Hfin.out
      · go_wp2_with fail
        go_ret
        exact ord_finT (xs := [2, 1, 0, 1, 1, 1, 0]) Hg7.out (World.grownBy_alloc w7 _ none) Hr7.out rfl (by decide) bad_two (World.ownsRow_lit w7 _ 7 (Nat.le_refl _) (by simp [maxLen]) rfl)
      · go_wp2_with fail
        go_ret
        exact ord_finT (xs := [1, 0, 0]) Hg7.out (World.grownBy_alloc w7 _ none) Hr7.out rfl (by decide) bad_none (World.ownsRow_lit w7 _ 3 (Nat.le_refl _) (by simp [maxLen]) rfl)
      · go_wp2_with fail
        go_ret
        exact ord_finT (xs := [1, 10000, 0]) Hg7.out (World.grownBy_alloc w7 _ none) Hr7.out rfl (by decide) bad_many (World.ownsRow_lit w7 _ 3 (Nat.le_refl _) (by simp [maxLen]) rfl)

def LitPostT (w : World) (g P : Nat) (e : Ending) (w' : World) : Prop :=
  ∃ (xs : List Int) (g' n c : Nat), n = xs.length ∧ e = .returned (.slice (some ⟨g', 0, none⟩) n c) ∧ w'.ownsRow w.heap.size 3 1 (.slice (some ⟨g', 0, none⟩) n c) n (ints xs) ∧
    (n ≤ 44 ∧ (T.vldB xs = true → n ≤ 16)) ∧ RdOk w' g (P + 2100) ∧ w.grownBy w' (some g)

def LitRelT (w : World) (g P k : Nat) (v5 v6 : Value) (wr : World) : Prop :=
  ∃ (j : Nat) (t : T) (g1 c1 : Nat), v6 = .int .i64 j ∧ k + j = 4 ∧ v5 = .slice (some ⟨g1, 0, none⟩) t.enc.length c1 ∧ wr.ownsRow w.heap.size 3 1 v5 t.enc.length (ints t.enc) ∧
    (t.enc.length ≤ 43 ∧ (0 < j → t.enc.length ≤ 16)) ∧ RdOk wr g (P + 200 + j * 61) ∧ w.grownBy wr (some g)

theorem lit_finT {w w7 w8 : World} {g P n g' c : Nat} {xs : List Int} (h0 : w.grownBy w7 (some g)) (hg : w7.grownBy w8 none) (hr : RdOk w7 g (P + 2100)) (hn : n = xs.length) (hl : n ≤ 44 ∧ (T.vldB xs = true → n ≤ 16))
    (ho : w7.ownsRow w.heap.size 3 1 (.slice (some ⟨g', 0, none⟩) n c) n (ints xs)) : LitPostT w g P (.returned (.slice (some ⟨g', 0, none⟩) n c)) w8 :=
  ⟨xs, g', n, c, hn, rfl, ho.kept hg (.inr (by simp [Value.ownBlock])), hl, hr.kept hg (fun k hk => by cases hk), grownBy_step h0 hg (fun k hk => by cases hk)⟩

set_option maxHeartbeats 2000000 in
theorem l20LittleT_any (g P : Nat) (n : Int) (w : World) (hP : P ≤ 80000000) (hn0 : 0 ≤ n) (hn1 : n ≤ 1000000) (hrd : RdOk w g P) :
    Calls Try.prog 54 #[.pointer (some ⟨g, 0, none⟩), .int .i64 n] w (LitPostT w g P) := by
  have hgl : g < w.heap.size := by obtain ⟨_, _, _, _, h1, _⟩ := hrd; exact (Array.getElem?_eq_some_iff.1 h1).1
  have k0 := Lib.hid (odd_any g P n w (by omega) (by omega) (by omega) hrd)
  clear hrd
  go_enter Try.func54, Try.ntmps54
  go_wp2_with fail
  refine (k0.out).mono ?_
  rintro ee w0 ⟨b, rfl, hr0, hg0⟩
  have Hr0 := Lib.hid hr0
  have Hg0 := Lib.hid hg0
  have hg0s := hg0.size
  clear hr0 hg0
  cases b with
  | true =>
    have k1 := Lib.hid (l20OrdT_any g (P + 1) 1 w0 (by omega) (by decide) (by decide) Hr0.out)
    go_wp2_with fail
    refine (k1.out).mono ?_
    rintro ee w1 ⟨xs, g1, m, c, hm, rfl, ho, hl, hod, hr, hg⟩
    have hfin : LitPostT w g P (.returned (.slice (some ⟨g1, 0, none⟩) m c)) w1 := ⟨xs, g1, m, c, hm, rfl, Joins.ownsRow_le ho hg0s, ⟨hl, fun h => by rw [hod rfl] at h; cases h⟩, hr.mono (by omega), grownBy_trans Hg0.out hg⟩
    have Hfin := Lib.hid hfin
    clear hm ho hr hg hfin hod
    go_wp2_with fail
    go_ret
    exact Hfin.out
  | false =>
    have k3 := Lib.hid (l20Raw_any 4 2 g (P + 1) w0 (by omega) (by omega) (by omega) Hr0.out)
    go_wp2_with fail
    refine (k3.out).mono ?_
    rintro ee w1 ⟨t1, g1, c1, rfl, ho1, hl1, hr1, hg1⟩
    have hst : LitRelT w g P 4 (.slice (some ⟨g1, 0, none⟩) t1.enc.length c1) (.int .i64 0) w1 :=
      ⟨0, t1, g1, c1, rfl, rfl, rfl, Joins.ownsRow_le ho1 hg0s, ⟨Nat.le_trans hl1 (by decide), fun h => absurd h (by decide)⟩, hr1.mono (by simp [Cb] <;> omega), grownBy_trans Hg0.out hg1⟩
    have Hst := Lib.hid hst
    clear hst ho1 hl1 hr1 hg1
    go_wp2_with fail
    go_loopg [5, 6] 4 (fun k v5 v6 wr => LitRelT w g P k v5 v6 wr)
    case atStart => exact Hst.out
    case round =>
      obtain ⟨j, t, g2, c2, rfl, hkj, rfl, ho, hl, hr, hg⟩ := hrel
      have Hkj := Lib.hid hkj
      have Ho := Lib.hid ho
      have Hr := Lib.hid hr
      have Hg := Lib.hid hg
      have hj4 : j ≤ 4 := by omega
      by_cases hj : j < 4
      · by_cases hlen : 16 < t.enc.length
        · have k2 := Lib.hid (l20Raw_any 4 1 g (P + 200 + j * 61) wr (by omega) (by omega) (by omega) hr)
          clear hkj ho hr hg
          go_wp2_with fail
          refine (k2.out).mono ?_
          rintro ee w2 ⟨t2, g3, c3, rfl, ho2, hl2, hr2, hg2⟩
          have hfin : LitRelT w g P (gk - 1) (.slice (some ⟨g3, 0, none⟩) t2.enc.length c3) (.int .i64 ((j + 1 : Nat) : Int)) w2 :=
            ⟨j + 1, t2, g3, c3, rfl, by have := Hkj.out; omega, rfl, Joins.ownsRow_le ho2 Hg.out.size, ⟨Nat.le_trans hl2 (by decide), fun _ => Nat.le_trans hl2 (by decide)⟩, hr2.mono (by simp [Cb]; omega), grownBy_trans Hg.out hg2⟩
          have Hfin := Lib.hid hfin
          clear hfin ho2 hl2 hr2 hg2
          go_wp2_with fail
          go_roundg (gk - 1)
          case measure => have := Hkj.out; omega
          case rel => exact Hfin.out
        · clear hkj ho hr hg
          go_wp2_with fail
          go_ret
          exact ⟨t.enc, g2, t.enc.length, c2, rfl, rfl, Ho.out, ⟨by omega, fun _ => by omega⟩, Hr.out.mono (by omega), Hg.out⟩
      · clear hkj ho hr hg
        go_wp2_with fail
        go_ret
        exact ⟨t.enc, g2, t.enc.length, c2, rfl, rfl, Ho.out, ⟨by omega, fun _ => hl.2 (by omega)⟩, Hr.out.mono (by omega), Hg.out⟩

def BothPostT (w : World) (g P : Nat) (e : Ending) (w' : World) : Prop :=
  ∃ (xs ys : List Int) (g1 n c g2 n2 c2 : Nat), n = xs.length ∧ n2 = ys.length ∧ e = .returned (.tuple #[.slice (some ⟨g1, 0, none⟩) n c, .slice (some ⟨g2, 0, none⟩) n2 c2]) ∧
    w'.ownsRow w.heap.size 3 1 (.slice (some ⟨g1, 0, none⟩) n c) n (ints xs) ∧ w'.ownsRow w.heap.size 3 1 (.slice (some ⟨g2, 0, none⟩) n2 c2) n2 (ints ys) ∧ (n ≤ 44 ∧ (T.vldB xs = true → n ≤ 16)) ∧ (n2 ≤ 44 ∧ (T.vldB ys = true → n2 ≤ 16)) ∧ RdOk w' g (P + 4200) ∧ w.grownBy w' (some g)

set_option maxHeartbeats 2000000 in
theorem l20BothT_any (g : Nat) (w : World) (hrd : RdOk w g 0) : Calls Try.prog 29 #[.pointer (some ⟨g, 0, none⟩)] w (BothPostT w g 0) := by
  have hgl : g < w.heap.size := by obtain ⟨_, _, _, _, h1, _⟩ := hrd; exact (Array.getElem?_eq_some_iff.1 h1).1
  have k1 := Lib.hid (l20LittleT_any g 0 14 w (by decide) (by decide) (by decide) hrd)
  clear hrd
  go_enter Try.func29, Try.ntmps29
  go_wp2_with fail
  refine (k1.out).mono ?_
  rintro ee w1 ⟨xs, g1, n, c, hn, rfl, ho, hl, hr1, hg1⟩
  have Hn := Lib.hid hn
  have Ho := Lib.hid ho
  have Hg1 := Lib.hid hg1
  have k2 := Lib.hid (l20LittleT_any g (0 + 2100) 14 w1 (by decide) (by decide) (by decide) hr1)
  clear hn ho hr1 hg1
  go_wp2_with fail
  refine (k2.out).mono ?_
  rintro ee w2 ⟨ys, g2, n2, c2, hn2, rfl, ho2, hl2, hr2, hg2⟩
  have hfin : BothPostT w g 0 (.returned (.tuple #[.slice (some ⟨g1, 0, none⟩) n c, .slice (some ⟨g2, 0, none⟩) n2 c2])) w2 :=
    ⟨xs, ys, g1, n, c, g2, n2, c2, Hn.out, hn2, rfl, own_rd Ho.out hg2 hgl, Joins.ownsRow_le ho2 Hg1.out.size, hl, hl2, hr2.mono (by omega), grownBy_trans Hg1.out hg2⟩
  have Hfin := Lib.hid hfin
  clear hn2 ho2 hr2 hg2 hfin
  go_wp2_with fail
  go_ret2
  exact Hfin.out

def DrawBothT (w : World) (e : Ending) (w' : World) : Prop :=
  ∃ (xs ys : List Int) (g n c g2 n2 c2 : Nat), n = xs.length ∧ n2 = ys.length ∧ e = .returned (.tuple #[.slice (some ⟨g, 0, none⟩) n c, .slice (some ⟨g2, 0, none⟩) n2 c2]) ∧
    w'.ownsRow w.heap.size 3 1 (.slice (some ⟨g, 0, none⟩) n c) n (ints xs) ∧ w'.ownsRow w.heap.size 3 1 (.slice (some ⟨g2, 0, none⟩) n2 c2) n2 (ints ys) ∧ n ≤ 44 ∧ (n2 ≤ 44 ∧ (T.vldB ys = true → n2 ≤ 16)) ∧ Below w.heap.size w w'

set_option maxHeartbeats 2000000 in
theorem drawOrdDivideT_any (a : Option Addr) (len cap : Nat) (w : World) (h : By w a len cap) : Calls Try.prog 23 #[.slice a len cap] w (DrawBothT w) := by
  have k0 := Lib.hid (open_any a len cap w h)
  obtain ⟨g, hg⟩ : ∃ g, g = w.heap.size := ⟨_, rfl⟩
  rw [← hg] at k0
  have Hg := Lib.hid hg
  clear hg h
  go_enter Try.func23, Try.ntmps23
  go_wp2_with fail
  refine (k0.out).mono ?_
  rintro ee w1 ⟨rfl, hr1, hb1⟩
  have Hb1 := Lib.hid hb1
  have hgl := rd_lt hr1
  have k1 := Lib.hid (l20BothT_any g w1 hr1)
  clear hb1 hr1
  go_wp2_with fail
  refine (k1.out).mono ?_
  rintro ee w2 ⟨xs, ys, g1, n, c, g2, n2, c2, hn, hn2, rfl, ho, ho2, hl, hl2, hr2, hg2⟩
  have hs1 : w.heap.size ≤ w1.heap.size := Hb1.out.size
  have hgw : g ≤ w1.heap.size := by omega
  have Hn := Lib.hid hn
  have Hn2 := Lib.hid hn2
  have HoX := Lib.hid ho
  have HoY := Lib.hid ho2
  have Hg2 := Lib.hid hg2
  have kp := Lib.hid (pick_any g (0 + 4200) 2 w2 (by decide) (by decide) (by decide) hr2)
  clear hn hn2 ho ho2 hg2 hr2
  go_wp2_with fail
  refine (kp.out).mono ?_
  rintro ee w3 ⟨x, rfl, hx, hr3, hg3⟩
  have Hg3 := Lib.hid (grownBy_trans Hg2.out hg3)
  have HoX3 := Lib.hid (own_rd HoX.out hg3 hgl)
  have HoY3 := Lib.hid (own_rd HoY.out hg3 hgl)
  have hs3 := Hg3.out.size
  by_cases hx0 : x = 0
  · subst hx0
    have ko := Lib.hid (l20OrdT_any g (0 + 4200 + 1) 12 w3 (by decide) (by decide) (by decide) hr3)
    clear hx hr3 hg3
    go_wp2_with fail
    refine (ko.out).mono ?_
    rintro ee w4 ⟨zs, g4, n4, c4, hn4, rfl, ho4, hl4, _, _, hg4⟩
    have hfin : DrawBothT w (.returned (.tuple #[.slice (some ⟨g4, 0, none⟩) n4 c4, .slice (some ⟨g2, 0, none⟩) n2 c2])) w4 :=
      ⟨zs, ys, g4, n4, c4, g2, n2, c2, hn4, Hn2.out, rfl, Joins.ownsRow_le ho4 (Nat.le_trans hs1 hs3), Joins.ownsRow_le (own_rd HoY3.out hg4 hgl) hs1, hl4, hl2, by rw [← Hg.out]; exact Hb1.out.grown (grownBy_trans Hg3.out hg4) hgw (fun k e => by cases e; exact Nat.le_refl _)⟩
    have Hfin := Lib.hid hfin
    clear hn4 ho4 hg4 hfin
    go_wp2_with fail
    go_ret2
    exact Hfin.out
  · have hx1 : (x == 0) = false := by simpa using hx0
    have hfin : DrawBothT w (.returned (.tuple #[.slice (some ⟨g1, 0, none⟩) n c, .slice (some ⟨g2, 0, none⟩) n2 c2])) w3 :=
      ⟨xs, ys, g1, n, c, g2, n2, c2, Hn.out, Hn2.out, rfl, Joins.ownsRow_le HoX3.out hs1, Joins.ownsRow_le HoY3.out hs1, hl.1, hl2, by rw [← Hg.out]; exact Hb1.out.grown Hg3.out hgw (fun k e => by cases e; exact Nat.le_refl _)⟩
    have Hfin := Lib.hid hfin
    clear hx hr3 hg3 hx0 hfin
    go_wp2_with fail
    go_ret2
    exact Hfin.out

end Go.Proofs.Ytaleaagnkfbhpab

/- LFnOrdDivide -/
/- FnOrdDivide: the walk of the law. -/
namespace Go.Proofs.Ytaleaagnkfbhpab
open Go.RowKit

set_option maxRecDepth 100000 in
set_option maxHeartbeats 8000000 in
theorem fnOrdDivide_walk (a : Option Addr) (len cap : Nat) (w : World) (h : By w a len cap) :
    Calls Try.prog 6 #[.slice a len cap] w fun e w' => e = .returned (.bool true) ∧ Below w.heap.size w w' := by
  have hlm : len ≤ 9223372036854775807 := by have := h.1; have := h.2.1; unfold maxLen at this; omega
  by_cases hbig : 1048576 < len
  · clear h
    go_enter Try.func6, Try.ntmps6
    go_wp2_with fail
    go_ret
    exact ⟨rfl, Below.refl _ _⟩
  have k0 := Lib.hid (drawOrdDivideT_any a len cap w h)
  clear h
  go_enter Try.func6, Try.ntmps6
  go_wp2_with fail
  refine (k0.out).mono ?_
  rintro ee w1 ⟨xs, ys, g, n, c, g2, n2, c2, hn, hn2, rfl, ho, ho2, hl, hl2, hb0⟩
  have Hn := Lib.hid hn
  have Hn2 := Lib.hid hn2
  clear hn hn2
  have X_0 := Lib.hid (Sl.of_own ho)
  have Y_0 := Lib.hid (Sl.of_own ho2)
  have Ht0 := Lib.hid hb0
  have hws := hb0.size
  clear ho ho2 hb0
  have Hl2 := Lib.hid hl2.2
  have hl3 := hl2.1
  clear hl2
  cases hok : T.divOk xs ys with
  | false =>
    have hbr := T.divOk_false hok
    have Hok := Lib.hid hok
    have Hbr := Lib.hid hbr
    clear hok hbr
    have k1 := Lib.hid (impl_OrdDivide (some ⟨g, 0, none⟩) (some ⟨g2, 0, none⟩) n c n2 c2 xs ys w1 X_0.out Y_0.out)
    unfold DivPost at k1
    rw [Hbr.out.1, Hbr.out.2, Hok.out, List.length_nil] at k1
    go_wp2_with fail
    refine (k1.out).mono ?_
    rintro ee w101 ⟨aP, cP, aO, cO, rfl, ho, ho', hap, hb1⟩
    have Ht1 := Lib.hid (Ht0.out.trans (hb1.mono (by have h1 := Ht0.out.size; omega)))
    have X_1 := Lib.hid (X_0.out.below hb1)
    have Y_1 := Lib.hid (Y_0.out.below hb1)
    have P_1 := Lib.hid (Sl.of_own ho)
    have O_1 := Lib.hid (Sl.of_own ho')
    clear hb1 ho ho'
    clear hap
    have k2 := Lib.hid (spec_OrdDivide (some ⟨g, 0, none⟩) (some ⟨g2, 0, none⟩) n c n2 c2 xs ys w101 X_1.out Y_1.out)
    unfold DivPost at k2
    rw [Hbr.out.1, Hbr.out.2, Hok.out, List.length_nil] at k2
    go_wp2_with fail
    refine (k2.out).mono ?_
    rintro ee w102 ⟨aQ, cQ, aR, cR, rfl, ho, ho', hap, hb2⟩
    have Ht2 := Lib.hid (Ht1.out.trans (hb2.mono (by have h1 := Ht1.out.size; omega)))
    have X_2 := Lib.hid (X_1.out.below hb2)
    have Y_2 := Lib.hid (Y_1.out.below hb2)
    have P_2 := Lib.hid (P_1.out.below hb2)
    have O_2 := Lib.hid (O_1.out.below hb2)
    have Q_2 := Lib.hid (Sl.of_own ho)
    have R_2 := Lib.hid (Sl.of_own ho')
    clear hb2 ho ho'
    clear hap
    have k3 := Lib.hid (sameInts_any aP aQ 0 cP 0 cQ [] [] w102 (by decide) P_2.out Q_2.out)
    rw [eqB_refl] at k3
    go_wp2_with fail
    refine (k3.out).mono ?_
    rintro ee w103 ⟨rfl, hb3⟩
    have Ht3 := Lib.hid (Ht2.out.trans (hb3.mono (by have h1 := Ht2.out.size; omega)))
    have X_3 := Lib.hid (X_2.out.below hb3)
    have Y_3 := Lib.hid (Y_2.out.below hb3)
    have P_3 := Lib.hid (P_2.out.below hb3)
    have O_3 := Lib.hid (O_2.out.below hb3)
    have Q_3 := Lib.hid (Q_2.out.below hb3)
    have R_3 := Lib.hid (R_2.out.below hb3)
    clear hb3
    have k4 := Lib.hid (sameInts_any aO aR 0 cO 0 cR [] [] w103 (by decide) O_3.out R_3.out)
    rw [eqB_refl] at k4
    go_wp2_with fail
    refine (k4.out).mono ?_
    rintro ee w104 ⟨rfl, hb4⟩
    have Ht4 := Lib.hid (Ht3.out.trans (hb4.mono (by have h1 := Ht3.out.size; omega)))
    have X_4 := Lib.hid (X_3.out.below hb4)
    have Y_4 := Lib.hid (Y_3.out.below hb4)
    have P_4 := Lib.hid (P_3.out.below hb4)
    have O_4 := Lib.hid (O_3.out.below hb4)
    have Q_4 := Lib.hid (Q_3.out.below hb4)
    have R_4 := Lib.hid (R_3.out.below hb4)
    clear hb4
    have k5 := Lib.hid (alive_any w104)
    go_wp2_with fail
    refine (k5.out).mono ?_
    rintro ee w105 ⟨rfl, hb5⟩
    have Ht5 := Lib.hid (Ht4.out.trans (hb5.mono (by have h1 := Ht4.out.size; omega)))
    have X_5 := Lib.hid (X_4.out.below hb5)
    have Y_5 := Lib.hid (Y_4.out.below hb5)
    have P_5 := Lib.hid (P_4.out.below hb5)
    have O_5 := Lib.hid (O_4.out.below hb5)
    have Q_5 := Lib.hid (Q_4.out.below hb5)
    have R_5 := Lib.hid (R_4.out.below hb5)
    clear hb5
    go_wp2_with fail
    go_ret
    exact ⟨rfl, Ht5.out⟩
  | true =>
    have hv := T.divOk_vld hok
    have f3 := (T.vldB_true.1 hv.1).1
    have f1 := T.divRow_back hok (by have h1 := Hl2.out hv.2; have h2 := Hn.out; have h3 := Hn2.out; omega)
    obtain ⟨br, hbr⟩ : ∃ br, br = T.quoRow xs ys := ⟨_, rfl⟩
    obtain ⟨rr, hrr⟩ : ∃ rr, rr = T.remRow xs ys := ⟨_, rfl⟩
    have hbl : br.length ≤ 1000 := by rw [hbr]; exact (T.div_len xs ys).1
    have hrl : rr.length ≤ 1000 := by rw [hrr]; exact (T.div_len xs ys).2
    rw [← hbr, ← hrr] at f1
    have F1 := Lib.hid f1
    have F3 := Lib.hid f3
    have Hok := Lib.hid hok
    have Hbr := Lib.hid hbr
    have Hrr := Lib.hid hrr
    clear f1 f3 hv hok hbr hrr
    have k6 := Lib.hid (impl_OrdDivide (some ⟨g, 0, none⟩) (some ⟨g2, 0, none⟩) n c n2 c2 xs ys w1 X_0.out Y_0.out)
    unfold DivPost at k6
    rw [← Hbr.out, ← Hrr.out, Hok.out] at k6
    go_wp2_with fail
    refine (k6.out).mono ?_
    rintro ee w106 ⟨aP, cP, aO, cO, rfl, ho, ho', hap, hb6⟩
    have Ht6 := Lib.hid (Ht0.out.trans (hb6.mono (by have h1 := Ht0.out.size; omega)))
    have X_6 := Lib.hid (X_0.out.below hb6)
    have Y_6 := Lib.hid (Y_0.out.below hb6)
    have P_6 := Lib.hid (Sl.of_own ho)
    have O_6 := Lib.hid (Sl.of_own ho')
    clear hb6 ho ho'
    clear hap
    have k7 := Lib.hid (spec_OrdDivide (some ⟨g, 0, none⟩) (some ⟨g2, 0, none⟩) n c n2 c2 xs ys w106 X_6.out Y_6.out)
    unfold DivPost at k7
    rw [← Hbr.out, ← Hrr.out, Hok.out] at k7
    go_wp2_with fail
    refine (k7.out).mono ?_
    rintro ee w107 ⟨aQ, cQ, aR, cR, rfl, ho, ho', hap, hb7⟩
    have Ht7 := Lib.hid (Ht6.out.trans (hb7.mono (by have h1 := Ht6.out.size; omega)))
    have X_7 := Lib.hid (X_6.out.below hb7)
    have Y_7 := Lib.hid (Y_6.out.below hb7)
    have P_7 := Lib.hid (P_6.out.below hb7)
    have O_7 := Lib.hid (O_6.out.below hb7)
    have Q_7 := Lib.hid (Sl.of_own ho)
    have R_7 := Lib.hid (Sl.of_own ho')
    clear hb7 ho ho'
    clear hap
    have k8 := Lib.hid (sameInts_any aP aQ br.length cP br.length cQ br br w107 (by omega) P_7.out Q_7.out)
    rw [eqB_refl] at k8
    go_wp2_with fail
    refine (k8.out).mono ?_
    rintro ee w108 ⟨rfl, hb8⟩
    have Ht8 := Lib.hid (Ht7.out.trans (hb8.mono (by have h1 := Ht7.out.size; omega)))
    have X_8 := Lib.hid (X_7.out.below hb8)
    have Y_8 := Lib.hid (Y_7.out.below hb8)
    have P_8 := Lib.hid (P_7.out.below hb8)
    have O_8 := Lib.hid (O_7.out.below hb8)
    have Q_8 := Lib.hid (Q_7.out.below hb8)
    have R_8 := Lib.hid (R_7.out.below hb8)
    clear hb8
    have k9 := Lib.hid (sameInts_any aO aR rr.length cO rr.length cR rr rr w108 (by omega) O_8.out R_8.out)
    rw [eqB_refl] at k9
    go_wp2_with fail
    refine (k9.out).mono ?_
    rintro ee w109 ⟨rfl, hb9⟩
    have Ht9 := Lib.hid (Ht8.out.trans (hb9.mono (by have h1 := Ht8.out.size; omega)))
    have X_9 := Lib.hid (X_8.out.below hb9)
    have Y_9 := Lib.hid (Y_8.out.below hb9)
    have P_9 := Lib.hid (P_8.out.below hb9)
    have O_9 := Lib.hid (O_8.out.below hb9)
    have Q_9 := Lib.hid (Q_8.out.below hb9)
    have R_9 := Lib.hid (R_8.out.below hb9)
    clear hb9
    obtain ⟨pr, hpr⟩ : ∃ pr, pr = T.mulRow ys br := ⟨_, rfl⟩
    have f1 := F1.out
    rw [← hpr] at f1
    have F2 := Lib.hid f1
    have hpl : pr.length ≤ 1000 := by rw [hpr]; exact T.mulRow_len _ _
    have Hpr := Lib.hid hpr
    clear f1 hpr
    have k10 := Lib.hid (impl_OrdTimes (some ⟨g2, 0, none⟩) aP n2 c2 br.length cP ys br w109 Y_9.out P_9.out)
    unfold OrdOkPost at k10
    rw [← Hpr.out, F2.out.1] at k10
    go_wp2_with fail
    refine (k10.out).mono ?_
    rintro ee w110 ⟨aM, cM, rfl, ho, hb10⟩
    have Ht10 := Lib.hid (Ht9.out.trans (hb10.mono (by have h1 := Ht9.out.size; omega)))
    have X_10 := Lib.hid (X_9.out.below hb10)
    have Y_10 := Lib.hid (Y_9.out.below hb10)
    have P_10 := Lib.hid (P_9.out.below hb10)
    have O_10 := Lib.hid (O_9.out.below hb10)
    have Q_10 := Lib.hid (Q_9.out.below hb10)
    have R_10 := Lib.hid (R_9.out.below hb10)
    have M_10 := Lib.hid (Sl.of_own ho)
    clear hb10 ho
    have k11 := Lib.hid (impl_OrdAdd aM aO pr.length cM rr.length cO pr rr w110 M_10.out O_10.out)
    unfold OrdOkPost at k11
    rw [F2.out.2.2.1, F2.out.2.1] at k11
    go_wp2_with fail
    refine (k11.out).mono ?_
    rintro ee w111 ⟨aS, cS, rfl, ho, hb11⟩
    have Ht11 := Lib.hid (Ht10.out.trans (hb11.mono (by have h1 := Ht10.out.size; omega)))
    have X_11 := Lib.hid (X_10.out.below hb11)
    have Y_11 := Lib.hid (Y_10.out.below hb11)
    have P_11 := Lib.hid (P_10.out.below hb11)
    have O_11 := Lib.hid (O_10.out.below hb11)
    have Q_11 := Lib.hid (Q_10.out.below hb11)
    have R_11 := Lib.hid (R_10.out.below hb11)
    have M_11 := Lib.hid (M_10.out.below hb11)
    have S_11 := Lib.hid (Sl.of_own ho)
    clear hb11 ho
    have k12 := Lib.hid (sameInts_any aS (some ⟨g, 0, none⟩) xs.length cS n c xs xs w111 (by have := F3.out; omega) S_11.out X_11.out)
    rw [eqB_refl] at k12
    go_wp2_with fail
    refine (k12.out).mono ?_
    rintro ee w112 ⟨rfl, hb12⟩
    have Ht12 := Lib.hid (Ht11.out.trans (hb12.mono (by have h1 := Ht11.out.size; omega)))
    have X_12 := Lib.hid (X_11.out.below hb12)
    have Y_12 := Lib.hid (Y_11.out.below hb12)
    have P_12 := Lib.hid (P_11.out.below hb12)
    have O_12 := Lib.hid (O_11.out.below hb12)
    have Q_12 := Lib.hid (Q_11.out.below hb12)
    have R_12 := Lib.hid (R_11.out.below hb12)
    have M_12 := Lib.hid (M_11.out.below hb12)
    have S_12 := Lib.hid (S_11.out.below hb12)
    clear hb12
    have k13 := Lib.hid (impl_OrdCompare aO (some ⟨g2, 0, none⟩) rr.length cO n2 c2 rr ys w112 O_12.out Y_12.out)
    rw [F2.out.2.2.2] at k13
    go_wp2_with fail
    refine (k13.out).mono ?_
    rintro ee w113 ⟨rfl, hb13⟩
    have Ht13 := Lib.hid (Ht12.out.trans (hb13.mono (by have h1 := Ht12.out.size; omega)))
    have X_13 := Lib.hid (X_12.out.below hb13)
    have Y_13 := Lib.hid (Y_12.out.below hb13)
    have P_13 := Lib.hid (P_12.out.below hb13)
    have O_13 := Lib.hid (O_12.out.below hb13)
    have Q_13 := Lib.hid (Q_12.out.below hb13)
    have R_13 := Lib.hid (R_12.out.below hb13)
    have M_13 := Lib.hid (M_12.out.below hb13)
    have S_13 := Lib.hid (S_12.out.below hb13)
    clear hb13
    go_wp2_with fail
    go_ret
    exact ⟨rfl, Ht13.out⟩

end Go.Proofs.Ytaleaagnkfbhpab
