/- The program's natural sums. -/
import Derived.Test.YtlbaelehmoidpaaNat
import Derived.Test.YtlbaelehmoidpaaAddJ
namespace Go.Proofs.Ytlbaelehmoidpaa
set_option maxRecDepth 100000
open Go.RowKit

/-- A slice of terms, wherever in its block. -/
def Rw (w : World) (b o n c : Nat) (t : T) (l : List Value) : Prop :=
  n = t.cnt ∧ n ≤ c ∧ c ≤ maxLen ∧ TC w t l ∧ b < w.heap.size ∧ ∀ j u, l[j]? = some u → w.cell? ⟨b, o + j, none⟩ = some u

theorem Rw.below {w w' : World} {b o n c : Nat} {t : T} {l : List Value} (h : Rw w b o n c t l) (hb : Below w.heap.size w w') : Rw w' b o n c t l := by
  obtain ⟨h1, h2, h3, h4, h5, h6⟩ := h
  exact ⟨h1, h2, h3, h4.below hb, Nat.lt_of_lt_of_le h5 hb.size, fun j u hj => (hb.cell (p := ⟨b, o + j, none⟩) h5).trans (h6 j u hj)⟩

theorem Rw.of_tz {w : World} {g n c : Nat} {t : T} {cs : List Value} (h : Tz w g n c t cs) : Rw w g 0 n c t cs := by
  obtain ⟨h1, h2, h3, h4, h5, h6⟩ := h
  refine ⟨h1, h2, h3, h4, h5, fun j u hj => ?_⟩
  have hl := h4.length
  have hjl := (List.getElem?_eq_some_iff.1 hj).1
  rw [Nat.zero_add, h6 j (by omega)]
  exact hj

theorem Rw.rd {w : World} {b o n c : Nat} {t : T} {l : List Value} (h : Rw w b o n c t l) : Rd w (some ⟨b, o, none⟩) n c l := by
  obtain ⟨h1, h2, h3, h4, h5, h6⟩ := h
  have hl := h4.length
  exact ⟨by omega, h4.one, .inr ⟨b, o, rfl, fun j u hj => by rw [Addr.add_lit]; exact h6 j u hj⟩⟩

/-- The address of all but the first one: the same, where there is no room. -/
theorem Rw.tail {w : World} {b o n c : Nat} {m : Int} {e r : T} {l : List Value} (h : Rw w b o n c (.c m e r) l) : ∃ b' o', (if c = 1 then (some ⟨b, o, none⟩ : Option Addr) else some ⟨b, o + 2, none⟩) = some ⟨b', o', none⟩ ∧ Rw w b' o' (n - 1) (c - 1) r (l.drop 2) := by
  obtain ⟨h1, h2, h3, h4, h5, h6⟩ := h
  obtain ⟨be, oe, ce, l', rfl, _, _, _, htr⟩ := h4
  have hl := htr.length
  simp only [T.cnt] at h1
  by_cases hc : c = 1
  · refine ⟨b, o, by rw [if_pos hc], by omega, by omega, by omega, by simpa using htr, h5, fun j u hj => ?_⟩
    simp only [List.drop_succ_cons, List.drop_zero] at hj
    have := (List.getElem?_eq_some_iff.1 hj).1
    omega
  · refine ⟨b, o + 2, by rw [if_neg hc], by omega, by omega, by omega, by simpa using htr, h5, fun j u hj => ?_⟩
    simp only [List.drop_succ_cons, List.drop_zero] at hj
    have := h6 (j + 2) u (by simpa using hj)
    rw [show o + 2 + j = o + (j + 2) by omega]
    exact this

theorem Rd.of_own {w : World} {B n c : Nat} {a : Option Addr} {l : List Value} (h : w.ownsRow B 57 2 (.slice a n c) n l) (h1 : ∀ u ∈ l, u.oneCell' = true) : Rd w a n c l := by
  refine ⟨h.1, h1, ?_⟩
  rcases h.2 with ⟨h2, h3⟩ | ⟨g, cap, cur, h0, _⟩
  · simp only [Value.slice.injEq] at h2
    exact .inl ⟨h2.1, h3, h2.2.2⟩
  · simp only [Value.slice.injEq] at h0
    obtain ⟨rfl, _, rfl⟩ := h0
    refine .inr ⟨g, 0, rfl, fun j u hj => ?_⟩
    have hjl := (List.getElem?_eq_some_iff.1 hj).1
    have := h.1
    rw [Addr.add_lit, Nat.zero_add, h.cellAt j (by omega)]
    exact hj

def NatLoop (w : World) (s t : T) (gk : Nat) (v0 v1 v5 : Value) (wr : World) : Prop :=
  ∃ (p a b : T) (ps l0 l1 : List Value) (b0 o0 b1 o1 n0 n1 k0 k1 np c5 : Nat) (a5 : Option Addr), gk = n0 + n1 ∧ T.nat s t = p.app (T.nat a b) ∧ np = p.cnt ∧ np + n0 + n1 ≤ 2000 ∧
    (∀ x ∈ a.times, -1000000 ≤ x ∧ x ≤ 1000000) ∧ (∀ x ∈ b.times, -1000000 ≤ x ∧ x ≤ 1000000) ∧ a.enc.length ≤ 1000 ∧ b.enc.length ≤ 1000 ∧
    v0 = .slice (some ⟨b0, o0, none⟩) n0 k0 ∧ v1 = .slice (some ⟨b1, o1, none⟩) n1 k1 ∧ v5 = .slice a5 np c5 ∧ Rw w b0 o0 n0 k0 a l0 ∧ Rw w b1 o1 n1 k1 b l1 ∧ b0 < w.heap.size ∧ b1 < w.heap.size ∧
    wr.ownsRow w.heap.size 57 2 v5 np ps ∧ TC w p ps ∧ Below w.heap.size w wr

def NatEnd (w : World) (s t : T) (v0 v1 v5 : Value) (wr : World) : Prop :=
  ∃ (p a b : T) (ps l0 l1 : List Value) (b0 o0 b1 o1 n0 n1 k0 k1 np c5 : Nat) (a5 : Option Addr), T.nat s t = p.app (a.app b) ∧ np = p.cnt ∧ np + n0 + n1 ≤ 2000 ∧
    v0 = .slice (some ⟨b0, o0, none⟩) n0 k0 ∧ v1 = .slice (some ⟨b1, o1, none⟩) n1 k1 ∧ v5 = .slice a5 np c5 ∧ Rw w b0 o0 n0 k0 a l0 ∧ Rw w b1 o1 n1 k1 b l1 ∧
    wr.ownsRow w.heap.size 57 2 v5 np ps ∧ TC w p ps ∧ Below w.heap.size w wr

set_option maxRecDepth 100000 in
set_option maxHeartbeats 4000000 in
theorem mergedTerms_any (g1 n1 c1 g2 n2 c2 : Nat) (s t : T) (cs ds : List Value) (w : World) (h1 : Tz w g1 n1 c1 s cs) (h2 : Tz w g2 n2 c2 t ds) (hl1 : s.enc.length ≤ 1000) (hl2 : t.enc.length ≤ 1000)
    (htm : ∀ x ∈ s.times, -1000000 ≤ x ∧ x ≤ 1000000) (htm2 : ∀ x ∈ t.times, -1000000 ≤ x ∧ x ≤ 1000000) :
    Calls Try.prog 73 #[.slice (some ⟨g1, 0, none⟩) n1 c1, .slice (some ⟨g2, 0, none⟩) n2 c2] w (TmPost w (T.nat s t)) := by
  obtain ⟨i0, hi, hz0, hz1, hz2⟩ := info_parts info_term
  have hn1 : n1 ≤ 1000 := by have h3 := h1.1; have := T.cnt_le s; have := T.enc_len s; omega
  have hn2 : n2 ≤ 1000 := by have h3 := h2.1; have := T.cnt_le t; have := T.enc_len t; omega
  have hst : NatLoop w s t (n1 + n2) (.slice (some ⟨g1, 0, none⟩) n1 c1) (.slice (some ⟨g2, 0, none⟩) n2 c2) (.slice none 0 0) w :=
    ⟨.z, s, t, [], cs, ds, g1, 0, g2, 0, n1, n2, c1, c2, 0, 0, none, rfl, rfl, rfl, by omega, htm, htm2, hl1, hl2, rfl, rfl, rfl, Rw.of_tz h1, Rw.of_tz h2, h1.2.2.2.2.1, h2.2.2.2.2.1, ⟨rfl, .inl ⟨rfl, rfl⟩⟩, rfl, Below.refl _ _⟩
  have Hst := Lib.hid hst
  clear h1 h2 hl1 hl2 htm htm2 hst
  go_enter Try.func73, Try.ntmps73
  go_upto_block 0 with fail
  go_cut [0, 1, 5] (fun v0 v1 v5 wx => NatEnd w s t v0 v1 v5 wx)
  case first =>
    go_wp2_with fail
    go_loopg [0, 1, 5] (n1 + n2) (fun gk v0 v1 v5 wr => NatLoop w s t gk v0 v1 v5 wr)
    case atStart => exact Hst.out
    case round =>
      obtain ⟨p, a, b, ps, l0, l1, b0, o0, b1, o1, n0, n1', k0, k1, np, c5, a5, hgk, hnat, hnp, hsz, htm, htm2, hla, hlb, rfl, rfl, rfl, hA, hB, hb0, hb1, ho, hT, hbw⟩ := hrel
      have HA := Lib.hid hA
      have HB := Lib.hid hB
      have HO := Lib.hid ho
      have HT := Lib.hid hT
      have Hbw := Lib.hid hbw
      have Hnat := Lib.hid hnat
      have Hnp := Lib.hid hnp
      have Hgk := Lib.hid hgk
      have Htm := Lib.hid htm
      have Htm2 := Lib.hid htm2
      have hws := hbw.size
      have hna := hA.1
      have hnb := hB.1
      have hka := hA.2.1
      have hkb := hB.2.1
      by_cases hz : a = .z ∨ b = .z
      · have hfin : NatEnd w s t (.slice (some ⟨b0, o0, none⟩) n0 k0) (.slice (some ⟨b1, o1, none⟩) n1' k1) (.slice a5 np c5) wr :=
          ⟨p, a, b, ps, l0, l1, b0, o0, b1, o1, n0, n1', k0, k1, np, c5, a5, by
            rw [hnat]
            rcases hz with hz | hz
            · rw [hz, T.z_nat]; rfl
            · rw [hz, T.nat_z, T.app_z], hnp, hsz, rfl, rfl, rfl, hA, hB, ho, hT, hbw⟩
        have Hfin := Lib.hid hfin
        have hcase : n0 = 0 ∨ (0 < n0 ∧ n1' = 0) := by
          rcases hz with hz | hz
          · left; rw [hna, hz]; rfl
          · rcases Nat.eq_zero_or_pos n0 with h | h
            · exact .inl h
            · right; exact ⟨h, by rw [hnb, hz]; rfl⟩
        clear hz hfin hA hB ho hT hbw hnat hnp hgk htm htm2 hna hnb
        rcases hcase with h0 | ⟨h0, h1⟩
        · have hd1 : decide ((0 : Int) < (n0 : Int)) = false := by simp; omega
          have hd2 : decide (0 < n0) = false := by simp; omega
          have hd3 : ¬ (0 : Int) < (n0 : Int) := by omega
          have H0 := Lib.hid h0
          clear h0
          go_wp2_with fail
          go_meet
          exact Hfin.out
        · have hd1 : decide ((0 : Int) < (n1' : Int)) = false := by simp; omega
          have hd2 : decide (0 < n1') = false := by simp; omega
          have hd3 : ¬ (0 : Int) < (n1' : Int) := by omega
          have hd4 : (0 : Int) < (n0 : Int) := by omega
          have H1 := Lib.hid h1
          clear h1
          go_wp2_with fail
          go_meet
          exact Hfin.out
      · obtain ⟨n, e, q, ha2⟩ : ∃ n e q, a = .c n e q := by
          cases a with
          | z => exact absurd (.inl rfl) hz
          | c n e q => exact ⟨n, e, q, rfl⟩
        obtain ⟨m, f, r, hb2⟩ : ∃ n e q, b = .c n e q := by
          cases b with
          | z => exact absurd (.inr rfl) hz
          | c n e q => exact ⟨n, e, q, rfl⟩
        subst ha2
        subst hb2
        obtain ⟨be, oe, ce, l0', hl0, hate, hce, hcme, _⟩ := hA.2.2.2.1
        obtain ⟨bf, of, cf, l1', hl1, hatf, hcf, hcmf, _⟩ := hB.2.2.2.1
        have x0 : wr.cell? ⟨b0, o0, none⟩ = some (.int .i64 n) := (hA.below hbw).2.2.2.2.2 0 _ (by rw [hl0]; rfl)
        have x1 : wr.cell? ⟨b0, o0 + 1, none⟩ = some (.slice (some ⟨be, oe, none⟩) e.enc.length ce) := (hA.below hbw).2.2.2.2.2 1 _ (by rw [hl0]; rfl)
        have y0 : wr.cell? ⟨b1, o1, none⟩ = some (.int .i64 m) := (hB.below hbw).2.2.2.2.2 0 _ (by rw [hl1]; rfl)
        have y1 : wr.cell? ⟨b1, o1 + 1, none⟩ = some (.slice (some ⟨bf, of, none⟩) f.enc.length cf) := (hB.below hbw).2.2.2.2.2 1 _ (by rw [hl1]; rfl)
        have hb0r : b0 < wr.heap.size := by omega
        have hb1r : b1 < wr.heap.size := by omega
        have hle : e.enc.length ≤ 1000 := by
          have h1 := T.enc_len (T.c n e q)
          rw [T.body_c] at h1
          simp at h1
          omega
        have hlf : f.enc.length ≤ 1000 := by
          have h1 := T.enc_len (T.c m f r)
          rw [T.body_c] at h1
          simp at h1
          omega
        obtain ⟨ba, oa, hifa, hA'⟩ := hA.tail
        obtain ⟨bb, ob, hifb, hB'⟩ := hB.tail
        have HA' := Lib.hid hA'
        have HB' := Lib.hid hB'
        have Hate := Lib.hid hate
        have Hatf := Lib.hid hatf
        have hp1 : 0 < n0 := by simp [T.cnt] at hna; omega
        have hp2 : 0 < n1' := by simp [T.cnt] at hnb; omega
        have hp3 : (0 : Int) < (n0 : Int) := by omega
        have hp4 : (0 : Int) < (n1' : Int) := by omega
        have hp5 : (1 : Int) ≤ (n0 : Int) := by omega
        have hp6 : (1 : Int) ≤ (n1' : Int) := by omega
        have hp7 : (n0 : Int) ≤ (k0 : Int) := by omega
        have hp8 : (n1' : Int) ≤ (k1 : Int) := by omega
        have hp9 : (1 : Int) ≤ (k0 : Int) := by omega
        have hp10 : (1 : Int) ≤ (k1 : Int) := by omega
        have Hifa := Lib.hid hifa
        have Hifb := Lib.hid hifb
        clear hz hA hB ho hT hbw hnat hnp hgk htm htm2 hna hnb hl0 hl1 hate hatf hA' hB' hifa hifb
        go_upto_region 4 with fail
        obtain ⟨wb, hwb⟩ : ∃ wb, wb = wr.alloc (.cells #[.int .i64 n, .slice (some ⟨be, oe, none⟩) e.enc.length ce] 57) := ⟨_, rfl⟩
        rw [← hwb]
        have hBr : Below wr.heap.size wr wb := by rw [hwb]; exact (Below.refl _ _).alloc (Nat.le_refl _) _
        have hB1 : wr.heap.size < wb.heap.size := by rw [hwb, World.size_alloc]; omega
        have hz0' : wb.cell? ⟨wr.heap.size, 0, none⟩ = some (.int .i64 n) := by rw [hwb, Joins.cell_alloc_mark_at _ _ _ _ _ _ rfl]; rfl
        have hz1' : wb.cell? ⟨wr.heap.size, 1, none⟩ = some (.slice (some ⟨be, oe, none⟩) e.enc.length ce) := by rw [hwb, Joins.cell_alloc_mark_at _ _ _ _ _ _ rfl]; rfl
        have hf0' : wb.frozen? ⟨wr.heap.size, 0, none⟩ = false := by rw [hwb]; exact Joins.unfrozen_of_block (heap_alloc_new wr _) 0
        have ho2 : wb.ownsRow w.heap.size 57 2 (.slice a5 np c5) np ps := by rw [hwb]; exact HO.out.alloc _
        have yb0 : wb.cell? ⟨b1, o1, none⟩ = some (.int .i64 m) := (hBr.cell (p := ⟨b1, o1, none⟩) hb1r).trans y0
        have yb1 : wb.cell? ⟨b1, o1 + 1, none⟩ = some (.slice (some ⟨bf, of, none⟩) f.enc.length cf) := (hBr.cell (p := ⟨b1, o1 + 1, none⟩) hb1r).trans y1
        have HBr := Lib.hid hBr
        have HO2 := Lib.hid ho2
        have HF0 := Lib.hid hf0'
        clear hwb hBr ho2 hf0' x0 x1 y0 y1
        have kc := Lib.hid (compareOrds_any (e.body.length + 1) be oe ce bf of cf e.enc.length f.enc.length e f wb.drew (by omega) rfl rfl (by omega) (by omega) hce hcme hcf hcmf (Hate.out.below (Hbw.out.trans (HBr.out.drew.mono hws)) (Hate.out.lt (T.enc_ne e))) (Hatf.out.below (Hbw.out.trans (HBr.out.drew.mono hws)) (Hatf.out.lt (T.enc_ne f))))
        obtain ⟨cv, hcv⟩ : ∃ cv, cv = e.cmp f := ⟨_, rfl⟩
        rw [← hcv] at kc
        have Hcv := Lib.hid hcv
        clear hcv
        go_wp2_with fail
        go_still_tail 6, (by kernel_rfl)
        change wpList _ _ _ _ _ wb.drew
        go_wp2_with fail
        refine (kc.out).mono ?_
        rintro ee w3 ⟨rfl, hb3⟩
        have hb3' : Below wb.heap.size wb w3 := ((Below.refl wb.heap.size wb).drew).trans hb3
        have Hb3 := Lib.hid hb3'
        have HO3 := Lib.hid (ownsRow_below' HO2.out hb3')
        have Hbr3 := Lib.hid (HBr.out.trans (hb3'.mono HBr.out.size))
        have z0 : w3.cell? ⟨wr.heap.size, 0, none⟩ = some (.int .i64 n) := (hb3'.cell (p := ⟨wr.heap.size, 0, none⟩) hB1).trans hz0'
        have z1 : w3.cell? ⟨wr.heap.size, 1, none⟩ = some (.slice (some ⟨be, oe, none⟩) e.enc.length ce) := (hb3'.cell (p := ⟨wr.heap.size, 1, none⟩) hB1).trans hz1'
        have F0 : w3.frozen? ⟨wr.heap.size, 0, none⟩ = false := (hb3'.frozen (p := ⟨wr.heap.size, 0, none⟩) hB1).trans HF0.out
        have hb1b : b1 < wb.heap.size := by omega
        have u0 : w3.cell? ⟨b1, o1, none⟩ = some (.int .i64 m) := (hb3'.cell (p := ⟨b1, o1, none⟩) hb1b).trans yb0
        have u1 : w3.cell? ⟨b1, o1 + 1, none⟩ = some (.slice (some ⟨bf, of, none⟩) f.enc.length cf) := (hb3'.cell (p := ⟨b1, o1 + 1, none⟩) hb1b).trans yb1
        have hs3 : wr.heap.size < w3.heap.size := by have := hb3'.size; omega
        have hnps : np + n0 + n1' ≤ 2000 := hsz
        clear hb3 hb3' hz0' hz1' yb0 yb1
        rcases T.cmp_vals e f with hv | hv | hv
        · obtain rfl : cv = -1 := by rw [Hcv.out, hv]
          have Hv := Lib.hid hv
          clear hv
          go_wp2_with (first
            | (at_builtin; refine wpList_append_own _ rfl (.tmp 51) (.tmp 55) 54 rfl w.heap.size 57 i0 _ 2 32 Try.underlying54 hi hz0 hz1 hz2 rfl (by decide) _ np ps rfl (HO3.out.alloc _) ⟨w3.heap.size, 0, none⟩ 1 1 [.int .i64 m, .slice (some ⟨bf, of, none⟩) f.enc.length cf] rfl rfl (cell_two_new _ _ _ _) (two_one _ _ rfl rfl) (by unfold maxLen; omega) (by omega) (by simp; omega) ?_; intro v5 w5 ho5 hg5 _))
          all_goals (
            have hb5 : Below w.heap.size w w5 := ((Hbw.out.trans (Hbr3.out.mono hws)).alloc (by omega) _).grown hg5 (by simp; omega) (fun k hk => (HO3.out.lt k hk).1)
            obtain ⟨g5, c5', rfl⟩ := Joins.ownsRow_form ho5 (by omega)
            have hfin : NatLoop w s t (n0 + (n1' - 1)) (.slice (some ⟨b0, o0, none⟩) n0 k0) (.slice (if k1 = 1 then some ⟨b1, o1, none⟩ else some ⟨b1, o1 + 2, none⟩) (n1' - 1) (k1 - 1)) (.slice (some ⟨g5, 0, none⟩) (np + 1) c5') w5 := ⟨p.app (.c m f .z), .c n e q, r, ps ++ [.int .i64 m, .slice (some ⟨bf, of, none⟩) f.enc.length cf], l0, l1.drop 2, b0, o0, bb, ob, n0, n1' - 1, k0, k1 - 1, np + 1, c5', some ⟨g5, 0, none⟩, rfl, (by rw [Hnat.out, T.nat_lt n m q r Hv.out, T.app_assoc]; rfl), (by rw [T.app_cnt, ← Hnp.out]; rfl), by omega, Htm.out, (fun x hx => Htm2.out x (by simp [T.times] at hx ⊢; exact .inr hx)), hla, (by have h1 := T.enc_len r; have h2 := T.enc_len (T.c m f r); rw [T.body_c] at h2; simp at h2; omega), rfl, (by rw [Hifb.out]), rfl, HA.out, HB'.out, hb0, HB'.out.2.2.2.2.1, ho5, HT.out.snoc Hatf.out hcf hcmf, hb5⟩
            have Hfin := Lib.hid hfin
            clear hfin hb5 ho5 hg5
            go_roundg (n0 + (n1' - 1))
            case measure => have := Hgk.out; omega
            case rel =>
              have h9 := Hfin.out
              first
                | (have hk : k1 = 1 := by omega
                   have h8 : k1 - 1 = 0 := by omega
                   rw [if_pos hk, h8] at h9
                   exact h9)
                | (have hk : ¬ k1 = 1 := by omega
                   rw [if_neg hk] at h9
                   exact h9))
        · obtain rfl : cv = 0 := by rw [Hcv.out, hv]
          have Hv := Lib.hid hv
          have hm1 := Htm.out n (by simp [T.times])
          have hm2 := Htm2.out m (by simp [T.times])
          have q1 : IntKind.i64.wrap (n + m) = n + m := IntWalk.i64_in _ (by omega)
          obtain ⟨wS, hwS⟩ : ∃ wS, wS = w3.drew.setCell ⟨wr.heap.size, 0, none⟩ (.int .i64 (n + m)) := ⟨_, rfl⟩
          have zS0 : wS.cell? ⟨wr.heap.size, 0, none⟩ = some (.int .i64 (n + m)) := by rw [hwS]; exact set_same z0 _
          have zS1 : wS.cell? ⟨wr.heap.size, 1, none⟩ = some (.slice (some ⟨be, oe, none⟩) e.enc.length ce) := by rw [hwS, World.cell?_setCell_other _ _ _ _ (by simp)]; exact z1
          have hbrS : Below wr.heap.size wr wS := by rw [hwS]; exact Hbr3.out.drew.setCell (Nat.le_refl _) _
          have HbrS := Lib.hid hbrS
          have HOS := Lib.hid (ownsRow_below' HO.out hbrS)
          have hszS : wS.heap.size = w3.heap.size := by rw [hwS]; simp
          have hsS := hbrS.size
          have HC2 := Lib.hid (cell_two_new wS (.int .i64 (n + m)) (.slice (some ⟨be, oe, none⟩) e.enc.length ce) 57)
          rw [hszS] at HC2
          clear hv hbrS
          subst hwS
          go_wp2_with fail
          go_still_tail 8, (by kernel_rfl)
          change wpList _ _ _ _ _ w3.drew
          go_wp2_with (first
            | (at_builtin; refine wpList_append_own _ rfl (.tmp 33) (.tmp 35) 54 rfl w.heap.size 57 i0 _ 2 32 Try.underlying54 hi hz0 hz1 hz2 rfl (by decide) _ np ps rfl (HOS.out.alloc _) ⟨w3.heap.size, 0, none⟩ 1 1 [.int .i64 (n + m), .slice (some ⟨be, oe, none⟩) e.enc.length ce] rfl rfl (HC2.out) (two_one _ _ rfl rfl) (by unfold maxLen; omega) (by omega) (by simp; omega) ?_; intro v5 w5 ho5 hg5 _))
          have hb5 : Below w.heap.size w w5 := ((Hbw.out.trans (HbrS.out.mono hws)).alloc (by simp; omega) _).grown hg5 (by simp; omega) (fun k hk => (HOS.out.lt k hk).1)
          obtain ⟨g5, c5', rfl⟩ := Joins.ownsRow_form ho5 (by omega)
          have hfin : ∀ wx, Below w5.heap.size w5 wx → NatLoop w s t (n0 - 1 + (n1' - 1)) (.slice (if k0 = 1 then some ⟨b0, o0, none⟩ else some ⟨b0, o0 + 2, none⟩) (n0 - 1) (k0 - 1)) (.slice (if k1 = 1 then some ⟨b1, o1, none⟩ else some ⟨b1, o1 + 2, none⟩) (n1' - 1) (k1 - 1)) (.slice (some ⟨g5, 0, none⟩) (np + 1) c5') wx := fun wx hbx =>
            ⟨p.app (.c (n + m) e .z), q, r, ps ++ [.int .i64 (n + m), .slice (some ⟨be, oe, none⟩) e.enc.length ce], l0.drop 2, l1.drop 2, ba, oa, bb, ob, n0 - 1, n1' - 1, k0 - 1, k1 - 1, np + 1, c5', some ⟨g5, 0, none⟩, rfl, (by rw [Hnat.out, T.nat_eq n m q r Hv.out, T.app_assoc]; rfl), (by rw [T.app_cnt, ← Hnp.out]; rfl), by omega, (fun x hx => Htm.out x (by simp [T.times] at hx ⊢; exact .inr hx)), (fun x hx => Htm2.out x (by simp [T.times] at hx ⊢; exact .inr hx)), (by have h1 := T.enc_len q; have h2 := T.enc_len (T.c n e q); rw [T.body_c] at h2; simp at h2; omega), (by have h1 := T.enc_len r; have h2 := T.enc_len (T.c m f r); rw [T.body_c] at h2; simp at h2; omega), (by rw [Hifa.out]), (by rw [Hifb.out]), rfl, HA'.out, HB'.out, HA'.out.2.2.2.2.1, HB'.out.2.2.2.2.1, ownsRow_below' ho5 hbx, HT.out.snoc Hate.out hce hcme, hb5.trans (hbx.mono hb5.size)⟩
          have Hfin := Lib.hid hfin
          clear hfin hb5 ho5 hg5
          by_cases hk0 : k0 = 1
          all_goals by_cases hk1 : k1 = 1
          all_goals (
            go_quiet (fail)
            go_wp2_with fail
            go_roundg (n0 - 1 + (n1' - 1))
            case measure => have := Hgk.out; omega
            case rel =>
              have h9 := Hfin.out
              first
                | (have h8 : k0 - 1 = 0 := by omega
                   simp only [if_pos hk0, h8] at h9
                   first
                     | (have h7 : k1 - 1 = 0 := by omega
                        simp only [if_pos hk1, h7] at h9
                        exact h9 _ (Joins.below_draws _ _ _))
                     | (simp only [if_neg hk1] at h9
                        exact h9 _ (Joins.below_draws _ _ _)))
                | (simp only [if_neg hk0] at h9
                   first
                     | (have h7 : k1 - 1 = 0 := by omega
                        simp only [if_pos hk1, h7] at h9
                        exact h9 _ (Joins.below_draws _ _ _))
                     | (simp only [if_neg hk1] at h9
                        exact h9 _ (Joins.below_draws _ _ _))))
        · obtain rfl : cv = 1 := by rw [Hcv.out, hv]
          have Hv := Lib.hid hv
          clear hv
          go_wp2_with (first
            | (at_builtin; refine wpList_append_own _ rfl (.tmp 43) (.tmp 45) 54 rfl w.heap.size 57 i0 _ 2 32 Try.underlying54 hi hz0 hz1 hz2 rfl (by decide) _ np ps rfl (HO3.out.alloc _) ⟨w3.heap.size, 0, none⟩ 1 1 [.int .i64 n, .slice (some ⟨be, oe, none⟩) e.enc.length ce] rfl rfl (cell_two_new _ _ _ _) (two_one _ _ rfl rfl) (by unfold maxLen; omega) (by omega) (by simp; omega) ?_; intro v5 w5 ho5 hg5 _))
          all_goals (
            have hb5 : Below w.heap.size w w5 := ((Hbw.out.trans (Hbr3.out.mono hws)).alloc (by omega) _).grown hg5 (by simp; omega) (fun k hk => (HO3.out.lt k hk).1)
            obtain ⟨g5, c5', rfl⟩ := Joins.ownsRow_form ho5 (by omega)
            have hfin : NatLoop w s t (n0 - 1 + n1') (.slice (if k0 = 1 then some ⟨b0, o0, none⟩ else some ⟨b0, o0 + 2, none⟩) (n0 - 1) (k0 - 1)) (.slice (some ⟨b1, o1, none⟩) n1' k1) (.slice (some ⟨g5, 0, none⟩) (np + 1) c5') w5 :=
              ⟨p.app (.c n e .z), q, .c m f r, ps ++ [.int .i64 n, .slice (some ⟨be, oe, none⟩) e.enc.length ce], l0.drop 2, l1, ba, oa, b1, o1, n0 - 1, n1', k0 - 1, k1, np + 1, c5', some ⟨g5, 0, none⟩, rfl, (by rw [Hnat.out, T.nat_gt n m q r Hv.out, T.app_assoc]; rfl), (by rw [T.app_cnt, ← Hnp.out]; rfl), by omega, (fun x hx => Htm.out x (by simp [T.times] at hx ⊢; exact .inr hx)), Htm2.out, (by have h1 := T.enc_len q; have h2 := T.enc_len (T.c n e q); rw [T.body_c] at h2; simp at h2; omega), hlb, (by rw [Hifa.out]), rfl, rfl, HA'.out, HB.out, HA'.out.2.2.2.2.1, hb1, ho5, HT.out.snoc Hate.out hce hcme, hb5⟩
            have Hfin := Lib.hid hfin
            clear hfin hb5 ho5 hg5
            go_roundg (n0 - 1 + n1')
            case measure => have := Hgk.out; omega
            case rel =>
              have h9 := Hfin.out
              first
                | (have hk : k0 = 1 := by omega
                   have h8 : k0 - 1 = 0 := by omega
                   rw [if_pos hk, h8] at h9
                   exact h9)
                | (have hk : ¬ k0 = 1 := by omega
                   rw [if_neg hk] at h9
                   exact h9))
  case rest =>
    obtain ⟨p, a, b, ps, l0, l1, b0, o0, b1, o1, n0, n1', k0, k1, np, c5, a5, hnat, hnp, hsz, rfl, rfl, rfl, hA, hB, ho, hT, hbw⟩ := hcut
    go_step
    obtain ⟨wz, rfl⟩ : ∃ wz : World, wz = wc := ⟨_, rfl⟩
    have HA := Lib.hid hA
    have HB := Lib.hid hB
    have HO := Lib.hid ho
    have HT := Lib.hid hT
    have Hbw := Lib.hid hbw
    have Hnat := Lib.hid hnat
    have Hnp := Lib.hid hnp
    have hws := hbw.size
    have hcel : ∀ i, (wz.alloc (.cells #[.slice a5 np c5, .slice (some ⟨b0, o0, none⟩) n0 k0, .slice (some ⟨b1, o1, none⟩) n1' k1] 54)).cell? ⟨wz.heap.size, i, none⟩ = #[Value.slice a5 np c5, .slice (some ⟨b0, o0, none⟩) n0 k0, .slice (some ⟨b1, o1, none⟩) n1' k1][i]? :=
      fun i => Joins.cell_alloc_mark_at _ _ _ _ _ _ rfl
    have kc := Lib.hid (concat3_any wz.heap.size 3 a5 (some ⟨b0, o0, none⟩) (some ⟨b1, o1, none⟩) np c5 n0 k0 n1' k1 ps l0 l1 _ (hcel 0) (hcel 1) (hcel 2)
      ((Rd.of_own ho hT.one).below (Joins.below_alloc1 _ _)) ((hA.below hbw).rd.below (Joins.below_alloc1 _ _)) ((hB.below hbw).rd.below (Joins.below_alloc1 _ _)) (by omega) (by omega) (by omega))
    clear hA hB ho hT hbw hnat hnp hcel
    go_wp2_with fail
    refine (kc.out).mono ?_
    rintro ee w5 ⟨a', c', rfl, ho', hb'⟩
    have hfin : TmPost w (T.nat s t) (.returned (.slice a' (np + n0 + n1') c')) w5 := by
      have h1 : Below wz.heap.size wz w5 := (Joins.below_alloc1 wz _).trans (hb'.mono (by simp))
      refine ⟨a', _, c', rfl, Tm.of_own ho' ?_ ?_, Hbw.out.trans (h1.mono hws)⟩
      · rw [Hnat.out, List.append_assoc]
        exact (HT.out.join (HA.out.2.2.2.1.join HB.out.2.2.2.1)).below (Hbw.out.trans (h1.mono hws))
      · rw [Hnat.out, T.app_cnt, T.app_cnt, ← Hnp.out, ← HA.out.1, ← HB.out.1]; omega
    have Hfin := Lib.hid hfin
    clear ho' hb' hfin
    go_wp2_with fail
    go_ret
    exact Hfin.out

end Go.Proofs.Ytlbaelehmoidpaa
