/- The model's differences. -/
import Derived.Test.YtaleaagnkfbhpabMin
import Derived.Test.YtaleaagnkfbhpabSame
import Derived.Test.YtaleaagnkfbhpabAt
import Derived.Test.YtaleaagnkfbhpabTerms2
import Derived.Test.YtaleaagnkfbhpabAddT
import Derived.Deep.DeepCutAuto
import Derived.Deep.CutBlock
namespace Go.Proofs.Ytaleaagnkfbhpab
open Go.RowKit

def MinRel (w : World) (s t : T) (gk : Nat) (v9 : Value) (wr : World) : Prop :=
  ∃ (i : Nat) (d u1 u2 : T), v9 = .int .i64 i ∧ gk + i = s.cnt ∧ d.app u1 = s ∧ d.app u2 = t ∧ d.cnt = i ∧ T.minus s t = T.minus u1 u2 ∧ Below w.heap.size w wr

/-- Where both stand behind what they have in common. -/
def MinStop (u1 u2 : T) : Prop := u1 = .z ∨ u2 = .z ∨ ∃ n e q m f r, u1 = .c n e q ∧ u2 = .c m f r ∧ (n ≠ m ∨ e.cmp f ≠ 0)
def MinSame (u1 u2 : T) : Prop := ∃ n e q m r, u1 = .c n e q ∧ u2 = .c m e r ∧ n ≠ m
theorem min_not_same {u1 u2 : T} (h : MinStop u1 u2) (hn : ¬ MinSame u1 u2) : T.minus u1 u2 = u1 := by
  rcases h with rfl | rfl | ⟨n, e, q, m, f, r, rfl, rfl, h⟩
  · exact T.z_minus _
  · exact T.minus_z _
  · by_cases he : e.cmp f = 0
    · have hef := T.cmp_eq he
      subst hef
      rcases h with h | h
      · exact absurd ⟨n, e, q, m, r, rfl, rfl, h⟩ hn
      · exact absurd he h
    · exact T.minus_else n m q r he

def MinAt (w : World) (s t : T) (v9 : Value) (wr : World) : Prop :=
  ∃ (i : Nat) (d u1 u2 : T), v9 = .int .i64 i ∧ i + u1.cnt = s.cnt ∧ i + u2.cnt = t.cnt ∧ d.app u1 = s ∧ d.app u2 = t ∧ d.cnt = i ∧ T.minus s t = T.minus u1 u2 ∧ MinStop u1 u2 ∧ Below w.heap.size w wr

def MinRow (w : World) (u : T) (v10 : Value) (wx : World) : Prop := ∃ (g c : Nat), v10 = .slice (some ⟨g, 0, none⟩) u.cnt c ∧ wx.ownsRow w.heap.size 3 1 v10 u.cnt (ints u.times) ∧ Below w.heap.size w wx

def MinTest (wz : World) (u1 u2 : T) (v : Value) (wx : World) : Prop := ∃ bb : Bool, v = .bool bb ∧ (bb = true → MinSame u1 u2) ∧ (bb = false → ¬ MinSame u1 u2) ∧ Below wz.heap.size wz wx

theorem own_at {w : World} {B e n c g : Nat} {xs : List Value} (h : w.ownsRow B e 1 (.slice (some ⟨g, 0, none⟩) n c) n xs) {j : Nat} {u : Value} (hj : xs[j]? = some u) : w.cell? ⟨g, j, none⟩ = some u := by
  have hl := h.1
  have hjl := (List.getElem?_eq_some_iff.1 hj).1
  rw [h.cellAt j (by omega)]
  exact hj

theorem ints_drop (d u : T) {s : T} (h : d.app u = s) : (ints s.times).drop d.cnt = ints u.times := by
  rw [← h, T.times_app]
  have e : ints (d.times ++ u.times) = ints d.times ++ ints u.times := by simp [ints]
  rw [e, List.drop_append_of_le_length (by rw [ints_len, T.times_len]; exact Nat.le_refl _)]
  have e2 : (ints d.times).drop d.cnt = [] := List.drop_eq_nil_of_le (by rw [ints_len, T.times_len]; exact Nat.le_refl _)
  rw [e2, List.nil_append]

theorem ec_back {w : World} {d u : T} {es : List Value} (h : EC w (d.app u) es) : EC w u (es.drop d.cnt) := by
  induction d generalizing es with
  | z => exact h
  | c n e r _ ih =>
    obtain ⟨b, off, cap, es', rfl, _, _, _, h⟩ := h
    exact ih h

theorem ec_same {w : World} {u u' : T} {es : List Value} (h : EC w u es) (hu : u' = u ∨ ∃ n m e q, u = .c n e q ∧ u' = .c m e q) : EC w u' es := by
  rcases hu with rfl | ⟨n, m, e, q, rfl, rfl⟩
  · exact h
  · exact h

set_option maxRecDepth 100000 in
set_option maxHeartbeats 8000000 in
theorem l2Minus_any (b1 o1 n1 c1 b2 o2 n2 c2 : Nat) (s t : T) (w : World) (hn1 : n1 = s.enc.length) (hn2 : n2 = t.enc.length) (hl1 : n1 ≤ 1000) (hl2 : n2 ≤ 1000)
    (htm : ∀ x ∈ s.times, -1000000000 ≤ x ∧ x ≤ 1000000000) (htm2 : ∀ x ∈ t.times, -1000000000 ≤ x ∧ x ≤ 1000000000)
    (hc1 : n1 ≤ c1) (hm1 : c1 ≤ maxLen) (hc2 : n2 ≤ c2) (hm2 : c2 ≤ maxLen) (ha1 : At w b1 o1 s.enc) (ha2 : At w b2 o2 t.enc) :
    Calls Try.prog 50 #[.slice (some ⟨b1, o1, none⟩) n1 c1, .slice (some ⟨b2, o2, none⟩) n2 c2] w (IntPost w (T.minus s t).enc) := by
  obtain ⟨i0, hi, hz0, hz1, hz2⟩ := info_parts info_int
  have HA1 := Lib.hid ha1
  have HA2 := Lib.hid ha2
  have HN1 := Lib.hid hn1
  have HN2 := Lib.hid hn2
  have Htm := Lib.hid htm
  have Htm2 := Lib.hid htm2
  have k1 := Lib.hid (l1Terms_some b1 o1 n1 c1 s.enc s w hn1.symm (by omega) hc1 hm1 ha1 rfl)
  have hcs := T.cnt_le s
  have hct := T.cnt_le t
  have hes := T.enc_len s
  have het := T.enc_len t
  have hsc : s.cnt ≤ 1000 := by omega
  have htc : t.cnt ≤ 1000 := by omega
  have HFL := Lib.hid (show ∀ (d : T) (n : Int) (f r : T), (d.app (.c n f r) = s ∨ d.app (.c n f r) = t) → f.enc.length ≤ 5000 by
    rintro d n f r (h | h)
    all_goals (
      have h1 := congrArg (fun x => T.body x) h
      have h2 := congrArg List.length h1
      simp only [T.app_body, T.body_c, List.length_append, List.length_cons] at h2
      omega))
  have hml : (T.minus s t).enc.length ≤ 1000000000000 := by have h1 := T.minus_len s t; have := T.enc_len (T.minus s t); omega
  clear ha1 ha2 hn1 hn2 hcs hct hes het htm htm2
  go_enter Try.func50, Try.ntmps50
  go_wp2_with fail
  refine (k1.out).mono ?_
  rintro ee w1 ⟨g5, c5, g6, c6, es6, rfl, ho5, ho6, hE6, hb1⟩
  have hcap5 := own_cap' ho5 rfl
  have hcap6 := own_cap' ho6 rfl
  have k2 := Lib.hid (l1Terms_some b2 o2 n2 c2 t.enc t w1 HN2.out.symm (by omega) hc2 hm2 (HA2.out.below hb1 (HA2.out.lt (T.enc_ne t))) rfl)
  have Hb1 := Lib.hid hb1
  have HE6 := Lib.hid (hE6.below hb1)
  have Ho5 := Lib.hid ho5
  have Ho6 := Lib.hid ho6
  have hg5 := (ho5.lt g5 rfl).2
  have hg6 := (ho6.lt g6 rfl).2
  clear ho5 ho6 hE6 hb1
  go_wp2_with fail
  refine (k2.out).mono ?_
  rintro ee w2 ⟨g7, c7, g8, c8, es8, rfl, ho7, ho8, hE8, hb2⟩
  have Hb12 := Lib.hid (Hb1.out.trans (hb2.mono Hb1.out.size))
  have HE6' := Lib.hid (HE6.out.below hb2)
  have HE8 := Lib.hid (hE8.below hb2)
  have Ho5' := Lib.hid (ownsRow_below' Ho5.out hb2)
  have Ho6' := Lib.hid (ownsRow_below' Ho6.out hb2)
  have Ho7 := Lib.hid ho7
  have Ho8 := Lib.hid ho8
  have hg7 := (ho7.lt g7 rfl).2
  have hg8 := (ho8.lt g8 rfl).2
  have hs12 := hb2.size
  have hg5' : g5 < w2.heap.size := by omega
  have hg6' : g6 < w2.heap.size := by omega
  obtain ⟨nx, hnx⟩ : ∃ nx, nx = s.cnt := ⟨_, rfl⟩
  obtain ⟨nt, hnt⟩ : ∃ nt, nt = t.cnt := ⟨_, rfl⟩
  rw [← hnx, ← hnt]
  rw [← hnx] at hcap5 hcap6 hsc
  rw [← hnt] at htc
  have Hnx := Lib.hid hnx
  have Hnt := Lib.hid hnt
  have hst0 : MinRel w2 s t nx (.int .i64 (0 : Nat)) w2 := ⟨0, .z, s, t, rfl, hnx, rfl, rfl, rfl, rfl, Below.refl _ _⟩
  have Hst0 := Lib.hid hst0
  obtain ⟨rr, hrr⟩ : ∃ rr, rr = T.minus s t := ⟨_, rfl⟩
  have Hrr := Lib.hid hrr
  rw [← hrr] at hml
  clear ho7 ho8 hE8 hb2 hnx hnt hst0 hrr
  go_upto_block 0 with fail
  go_cut [9] (fun v9 wx => MinAt w2 s t v9 wx)
  case first =>
    go_wp2_with fail
    go_loopg [9] nx (fun gk v9 wr => MinRel w2 s t gk v9 wr)
    case atStart => exact Hst0.out
    case round =>
      obtain ⟨i, d, u1, u2, rfl, hgk, hd1, hd2, hdi, hmin, hbw⟩ := hrel
      have Hgk := Lib.hid hgk
      have Hd1 := Lib.hid hd1
      have Hd2 := Lib.hid hd2
      have Hdi := Lib.hid hdi
      have Hmin := Lib.hid hmin
      have Hbw := Lib.hid hbw
      have hws := hbw.size
      have hct : nx = i + u1.cnt ∧ nt = i + u2.cnt := ⟨by rw [Hnx.out, ← hd1, T.app_cnt, hdi], by rw [Hnt.out, ← hd2, T.app_cnt, hdi]⟩
      have Hct := Lib.hid hct
      have hstop : MinStop u1 u2 → ∀ wx, Below wr.heap.size wr wx → MinAt w2 s t (.int .i64 (i : Nat)) wx := fun h wx hb =>
        ⟨i, d, u1, u2, rfl, by have := hct.1; have := Hnx.out; omega, by have := hct.2; have := Hnt.out; omega, hd1, hd2, hdi, hmin, h, hbw.trans (hb.mono hws)⟩
      have Hstop := Lib.hid hstop
      have hi1 : i ≤ nx := by omega
      have hi2 : i ≤ nt := by omega
      clear hgk hd1 hd2 hdi hmin hbw hct hstop
      by_cases hu1 : u1 = .z
      · have hd : decide ((i : Int) < (nx : Int)) = false := decide_eq_false (by have h1 := Hct.out.1; rw [hu1] at h1; simp only [T.cnt] at h1; omega)
        have hdn : decide (i < nx) = false := decide_eq_false (by have h1 := Hct.out.1; rw [hu1] at h1; simp only [T.cnt] at h1; omega)
        have Hu := Lib.hid (show MinStop u1 u2 from .inl hu1)
        clear hu1
        go_wp2_with fail
        go_quiet (fail)
        go_wp2_with fail
        go_meet
        exact Hstop.out Hu.out _ (Joins.below_draws _ _ _)
      · obtain ⟨n, e, q, rfl⟩ : ∃ n e q, u1 = .c n e q := by
          cases u1 with
          | z => exact absurd rfl hu1
          | c n e q => exact ⟨n, e, q, rfl⟩
        have hlt : i < nx := by have h1 := Hct.out.1; simp only [T.cnt] at h1; omega
        clear hu1
        by_cases hu2 : u2 = .z
        · have hd : decide ((i : Int) < (nt : Int)) = false := decide_eq_false (by have h1 := Hct.out.2; rw [hu2] at h1; simp only [T.cnt] at h1; omega)
          have hdn : decide (i < nt) = false := decide_eq_false (by have h1 := Hct.out.2; rw [hu2] at h1; simp only [T.cnt] at h1; omega)
          have Hu := Lib.hid (show MinStop (.c n e q) u2 from .inr (.inl hu2))
          clear hu2
          go_wp2_with fail
          go_quiet (fail)
          go_wp2_with fail
          go_meet
          exact Hstop.out Hu.out _ (Joins.below_draws _ _ _)
        · obtain ⟨m, f, r, rfl⟩ : ∃ n e q, u2 = .c n e q := by
            cases u2 with
            | z => exact absurd rfl hu2
            | c n e q => exact ⟨n, e, q, rfl⟩
          have hlt2 : i < nt := by have h1 := Hct.out.2; simp only [T.cnt] at h1; omega
          clear hu2
          have x5 : wr.cell? ⟨g5, i, none⟩ = some (.int .i64 n) := (Hbw.out.cell (p := ⟨g5, i, none⟩) hg5').trans (own_at Ho5'.out (by rw [List.getElem?_map, T.times_pick Hd1.out Hdi.out]; rfl))
          have x7 : wr.cell? ⟨g7, i, none⟩ = some (.int .i64 m) := (Hbw.out.cell (p := ⟨g7, i, none⟩) hg7).trans (own_at Ho7.out (by rw [List.getElem?_map, T.times_pick Hd2.out Hdi.out]; rfl))
          by_cases hnm : n = m
          · subst hnm
            obtain ⟨be, oe, ce, pp1, hpE1, hce1, hce2⟩ := HE6'.out.pick Hd1.out Hdi.out
            obtain ⟨bf, of, cf, pp2, hpE2, hcf1, hcf2⟩ := HE8.out.pick Hd2.out Hdi.out
            have x6 : wr.cell? ⟨g6, i, none⟩ = some (.slice (some ⟨be, oe, none⟩) e.enc.length ce) := (Hbw.out.cell (p := ⟨g6, i, none⟩) hg6').trans (own_at Ho6'.out pp1)
            have x8 : wr.cell? ⟨g8, i, none⟩ = some (.slice (some ⟨bf, of, none⟩) f.enc.length cf) := (Hbw.out.cell (p := ⟨g8, i, none⟩) hg8).trans (own_at Ho8.out pp2)
            have hel := HFL.out d n e q (.inl Hd1.out)
            have ke := Lib.hid (l1Same_any (some ⟨be, oe, none⟩) (some ⟨bf, of, none⟩) e.enc.length ce f.enc.length cf e.enc f.enc wr.drew (by omega)
              ⟨rfl, hce1, hce2, fun _ => ⟨be, oe, rfl, hpE1.below Hbw.out.drew (hpE1.lt (T.enc_ne e))⟩⟩ ⟨rfl, hcf1, hcf2, fun _ => ⟨bf, of, rfl, hpE2.below Hbw.out.drew (hpE2.lt (T.enc_ne f))⟩⟩)
            clear pp1 pp2 hpE1 hpE2
            by_cases hef : e.cmp f = 0
            · have hefq := T.cmp_eq hef
              subst hefq
              rw [eqB_refl] at ke
              have hfin : ∀ wx, Below wr.heap.size wr wx → MinRel w2 s t (gk - 1) (.int .i64 ((i : Int) + 1)) wx := fun wx hb =>
                ⟨i + 1, d.app (.c n e .z), q, r, by go_num, by have := Hgk.out; have := Hnx.out; omega, by rw [T.app_assoc]; exact Hd1.out, by rw [T.app_assoc]; exact Hd2.out, by rw [T.app_cnt, Hdi.out]; rfl,
                  by rw [Hmin.out, T.minus_same n q r hef], Hbw.out.trans (hb.mono hws)⟩
              have Hfin := Lib.hid hfin
              clear hef hfin
              go_wp2_with fail
              go_still_tail 30, (by kernel_rfl)
              change wpList _ _ _ _ _ wr.drew
              go_wp2_with fail
              refine (ke.out).mono ?_
              rintro ee w3 ⟨rfl, hb3⟩
              have Hb3 := Lib.hid (((Below.refl wr.heap.size wr).drew).trans hb3)
              clear hb3
              go_wp2_with fail
              go_roundg (gk - 1)
              case measure => have := Hgk.out; have := Hnx.out; omega
              case rel => exact Hfin.out _ Hb3.out
            · have heq : eqB e.enc f.enc = false := by
                rw [eqB, decide_eq_false_iff_not]
                intro h
                exact hef (T.cmp_eq_iff.2 (T.enc_inj' h))
              rw [heq] at ke
              have Hu := Lib.hid (show MinStop (.c n e q) (.c n f r) from .inr (.inr ⟨n, e, q, n, f, r, rfl, rfl, .inr hef⟩))
              clear hef heq
              go_wp2_with fail
              go_still_tail 30, (by kernel_rfl)
              change wpList _ _ _ _ _ wr.drew
              go_wp2_with fail
              refine (ke.out).mono ?_
              rintro ee w3 ⟨rfl, hb3⟩
              have Hb3 := Lib.hid (((Below.refl wr.heap.size wr).drew).trans hb3)
              clear hb3
              go_wp2_with fail
              go_meet
              exact Hstop.out Hu.out _ Hb3.out
          · have hne : (n == m) = false := by simpa using hnm
            have Hu := Lib.hid (show MinStop (.c n e q) (.c m f r) from .inr (.inr ⟨n, e, q, m, f, r, rfl, rfl, .inl hnm⟩))
            clear hnm
            go_wp2_with fail
            go_quiet (fail)
            go_wp2_with fail
            go_meet
            exact Hstop.out Hu.out _ (Joins.below_draws _ _ _)
  case rest =>
    obtain ⟨i, d, u1, u2, rfl, hct1, hct2, hd1, hd2, hdi, hmin, hstop, hbz⟩ := hcut
    go_step
    obtain ⟨wz, rfl⟩ : ∃ wz : World, wz = wc := ⟨_, rfl⟩
    have Hd1 := Lib.hid hd1
    have Hd2 := Lib.hid hd2
    have Hdi := Lib.hid hdi
    have Hmin := Lib.hid hmin
    have Hstop := Lib.hid hstop
    have Hbz := Lib.hid hbz
    have hwz := hbz.size
    have hct : nx = i + u1.cnt ∧ nt = i + u2.cnt := ⟨by have := Hnx.out; omega, by have := Hnt.out; omega⟩
    have Hct := Lib.hid hct
    have hi1 : i ≤ nx := by omega
    have hi2 : i ≤ nt := by omega
    have hi3 : (i : Int) ≤ (nx : Int) := by omega
    have hi4 : (nx : Int) ≤ (c5 : Int) := by omega
    have hi5 : (i : Int) ≤ (c5 : Int) := by omega
    have hi6 : (nx : Int) ≤ (c6 : Int) := by omega
    have hi7 : (i : Int) ≤ (c6 : Int) := by omega
    have hdr := ints_drop d u1 hd1
    rw [hdi] at hdr
    have Hdr := Lib.hid hdr
    have hEd : EC w2 u1 (es6.drop i) := by have h := HE6'.out; rw [← hd1] at h; have h2 := ec_back h; rw [hdi] at h2; exact h2
    have HEd := Lib.hid hEd
    have HL5 := Lib.hid (show (ints u1.times).length = (nx - i) * 1 by rw [ints_len, T.times_len]; omega)
    have HO := Lib.hid (World.ownsRow_lit (base := wz.heap.size) (e := 3) (size := 1) wz #[] 0 (Nat.le_refl _) (by simp [maxLen]) rfl)
    have HNw := Lib.hid (show ∀ j v, (ints u1.times)[j]? = some v → (wz.alloc (.cells #[] 3)).cell? ((⟨g5, i, none⟩ : Addr).add j) = some v from fun j v hj => by
      rw [Addr.add_lit, World.cell?_alloc_past _ _ _ (show g5 < wz.heap.size by omega), Hbz.out.cell (p := ⟨g5, i + j, none⟩) hg5']
      exact own_at Ho5'.out (by rw [← Hdr.out, List.getElem?_drop] at hj; exact hj))
    clear hct1 hct2 hd1 hd2 hdi hmin hstop hbz hct hdr hEd
    go_upto_region 6 with fail
    go_cut [10] (fun v10 wx => MinRow w2 u1 v10 wx)
    case first =>
      by_cases hc : c5 = i
      · have hu0 : u1.cnt = 0 := by have := Hct.out.1; omega
        have hu1 : u1 = .z := T.cnt_zero hu0
        have hci : (c5 : Int) = (i : Int) := by omega
        have hxi : nx = i := by omega
        subst hxi
        subst hc
        go_wp2_with (first
          | (at_builtin; refine wpList_append_own _ rfl (.tmp 55) (.tmp 58) 23 rfl wz.heap.size 3 i0 (.int .i64 0) 1 8 Try.underlying23 hi hz0 hz1 hz2 rfl (by decide) _ 0 [] rfl HO.out _ 0 _ ([] : List Value) rfl rfl no_news (by intro u hu; cases hu) (by unfold maxLen; omega) (by omega) (by simp) ?_; intro v1 wa ho1 hg1 hnl1))
        obtain ⟨g1, k1', rfl, _⟩ := own_some' ho1 (fun h => by have := (hnl1.1 h).1; cases this)
        have hfin : MinRow w2 u1 (.slice (some ⟨g1, 0, none⟩) (0 + 0) k1') wa := by
          rw [hu1]
          exact ⟨g1, k1', rfl, Joins.ownsRow_le ho1 hwz, Hbz.out.trans (((Below.refl wz.heap.size wz).alloc (Nat.le_refl _) _).grown hg1 (by simp) (fun r e => (HO.out.lt r e).1) |>.mono hwz)⟩
        have Hfin := Lib.hid hfin
        clear ho1 hg1 hnl1 hfin
        go_wp2_with fail
        go_meet
        exact Hfin.out
      · have hci : ¬ (c5 : Int) = (i : Int) := by omega
        go_wp2_with (first
          | (at_builtin; refine wpList_append_own _ rfl (.tmp 55) (.tmp 58) 23 rfl wz.heap.size 3 i0 (.int .i64 0) 1 8 Try.underlying23 hi hz0 hz1 hz2 rfl (by decide) _ 0 [] rfl HO.out ⟨g5, i, none⟩ (nx - i) (c5 - i) (ints u1.times) rfl HL5.out HNw.out (ints_one _) (by unfold maxLen; omega) (by omega) (by simp) ?_; intro v1 wa ho1 hg1 hnl1))
        obtain ⟨g1, k1', rfl, _⟩ := own_some' ho1 (fun h => by have := (hnl1.1 h).1; cases this)
        have hfin : MinRow w2 u1 (.slice (some ⟨g1, 0, none⟩) (0 + (nx - i)) k1') wa := by
          have e1 : 0 + (nx - i) = u1.cnt := by have := Hct.out.1; omega
          rw [e1] at ho1 ⊢
          exact ⟨g1, k1', rfl, Joins.ownsRow_le (by simpa using ho1) hwz, Hbz.out.trans (((Below.refl wz.heap.size wz).alloc (Nat.le_refl _) _).grown hg1 (by simp) (fun r e => (HO.out.lt r e).1) |>.mono hwz)⟩
        have Hfin := Lib.hid hfin
        clear ho1 hg1 hnl1 hfin
        go_wp2_with fail
        go_meet
        exact Hfin.out
    case rest =>
      obtain ⟨g10, c10, rfl, ho10, hby⟩ := hcut
      go_step
      obtain ⟨wy, rfl⟩ : ∃ wy : World, wy = wc := ⟨_, rfl⟩
      have Ho10 := Lib.hid ho10
      have Hby := Lib.hid hby
      have hwy := hby.size
      obtain ⟨un, hun⟩ : ∃ un, un = u1.cnt := ⟨_, rfl⟩
      have Hun := Lib.hid hun
      rw [← hun] at Ho10 ⊢
      have hg10 := (ho10.lt g10 rfl).1
      have hun1 : nx = i + un := by have := Hct.out.1; omega
      have Hun1 := Lib.hid hun1
      have hunb : un ≤ nx := by omega
      clear ho10 hby hun hun1
      go_upto_region 7 with fail
      go_cut [80] (fun v80 wx => MinTest wy u1 u2 v80 wx)
      case first =>
        by_cases hu1 : u1 = .z
        · have hu0 : un = 0 := by rw [Hun.out, hu1]; rfl
          have hd : decide ((i : Int) < (nx : Int)) = false := decide_eq_false (by have := Hun1.out; omega)
          have hdn : decide (i < nx) = false := decide_eq_false (by have := Hun1.out; omega)
          have hfin : ∀ wx, Below wy.heap.size wy wx → MinTest wy u1 u2 (.bool false) wx := fun wx hb => ⟨false, rfl, (fun h => by cases h), (fun _ hs => by
            obtain ⟨n, e, q, m, r, h1, _⟩ := hs
            rw [hu1] at h1
            cases h1), hb⟩
          have Hfin := Lib.hid hfin
          clear hfin hu1 hu0
          go_wp2_with fail
          go_quiet (fail)
          go_wp2_with fail
          go_meet
          exact Hfin.out _ (Joins.below_draws _ _ _)
        · obtain ⟨n, e, q, hq1⟩ : ∃ n e q, u1 = .c n e q := by
            cases u1 with
            | z => exact absurd rfl hu1
            | c n e q => exact ⟨n, e, q, rfl⟩
          have hlt : i < nx := by have := Hun1.out; have h2 := Hun.out; rw [hq1] at h2; simp only [T.cnt] at h2; omega
          clear hu1
          by_cases hu2 : u2 = .z
          · have hnt : nt = i := by have h1 := Hct.out.2; rw [hu2] at h1; simp only [T.cnt] at h1; omega
            have hd : decide ((i : Int) < (nt : Int)) = false := decide_eq_false (by omega)
            have hdn : decide (i < nt) = false := decide_eq_false (by omega)
            have hfin : ∀ wx, Below wy.heap.size wy wx → MinTest wy u1 u2 (.bool false) wx := fun wx hb => ⟨false, rfl, (fun h => by cases h), (fun _ hs => by
              obtain ⟨n, e, q, m, r, _, h1, _⟩ := hs
              rw [hu2] at h1
              cases h1), hb⟩
            have Hfin := Lib.hid hfin
            clear hfin hu2 hnt hq1
            go_wp2_with fail
            go_quiet (fail)
            go_wp2_with fail
            go_meet
            exact Hfin.out _ (Joins.below_draws _ _ _)
          · obtain ⟨m, f, r, hq2⟩ : ∃ n e q, u2 = .c n e q := by
              cases u2 with
              | z => exact absurd rfl hu2
              | c n e q => exact ⟨n, e, q, rfl⟩
            have hlt2 : i < nt := by have h1 := Hct.out.2; rw [hq2] at h1; simp only [T.cnt] at h1; omega
            have hdd1 : d.app (.c n e q) = s := by rw [← hq1]; exact Hd1.out
            have hdd2 : d.app (.c m f r) = t := by rw [← hq2]; exact Hd2.out
            obtain ⟨be, oe, ce, pp1, hpE1, hce1, hce2⟩ := HE6'.out.pick hdd1 Hdi.out
            obtain ⟨bf, of, cf, pp2, hpE2, hcf1, hcf2⟩ := HE8.out.pick hdd2 Hdi.out
            have x6 : wy.cell? ⟨g6, i, none⟩ = some (.slice (some ⟨be, oe, none⟩) e.enc.length ce) := (Hby.out.cell (p := ⟨g6, i, none⟩) hg6').trans (own_at Ho6'.out pp1)
            have x8 : wy.cell? ⟨g8, i, none⟩ = some (.slice (some ⟨bf, of, none⟩) f.enc.length cf) := (Hby.out.cell (p := ⟨g8, i, none⟩) hg8).trans (own_at Ho8.out pp2)
            have hel := HFL.out d n e q (.inl hdd1)
            have ke := Lib.hid (l1Same_any (some ⟨be, oe, none⟩) (some ⟨bf, of, none⟩) e.enc.length ce f.enc.length cf e.enc f.enc wy.drew (by omega)
              ⟨rfl, hce1, hce2, fun _ => ⟨be, oe, rfl, hpE1.below Hby.out.drew (hpE1.lt (T.enc_ne e))⟩⟩ ⟨rfl, hcf1, hcf2, fun _ => ⟨bf, of, rfl, hpE2.below Hby.out.drew (hpE2.lt (T.enc_ne f))⟩⟩)
            have hfin : ∀ wx, Below wy.heap.size wy wx → MinTest wy u1 u2 (.bool (eqB e.enc f.enc)) wx := fun wx hb => ⟨eqB e.enc f.enc, rfl,
              (fun h => by
                have hef := T.enc_inj' (eqB_true.1 h)
                subst hef
                rcases Hstop.out with h1 | h1 | ⟨n', e', q', m', f', r', h1, h2, h3⟩
                · rw [hq1] at h1; cases h1
                · rw [hq2] at h1; cases h1
                · rw [hq1] at h1
                  rw [hq2] at h2
                  cases h1
                  cases h2
                  rcases h3 with h3 | h3
                  · exact ⟨n, e, q, m, r, hq1, hq2, h3⟩
                  · exact absurd (T.cmp_refl e) h3),
              (fun h hs => by
                obtain ⟨n', e', q', m', r', h1, h2, _⟩ := hs
                rw [hq1] at h1
                rw [hq2] at h2
                cases h1
                cases h2
                rw [eqB_refl] at h
                cases h), hb⟩
            have Hfin := Lib.hid hfin
            clear pp1 pp2 hpE1 hpE2 hfin hu2 hq1 hq2 hdd1 hdd2
            go_wp2_with fail
            go_still_tail 19, (by kernel_rfl)
            change wpList _ _ _ _ _ wy.drew
            go_wp2_with fail
            refine (ke.out).mono ?_
            rintro ee w3 ⟨rfl, hb3⟩
            have Hb3 := Lib.hid (((Below.refl wy.heap.size wy).drew).trans hb3)
            clear hb3
            go_wp2_with fail
            go_meet
            exact Hfin.out _ Hb3.out
      case rest =>
        obtain ⟨bb, rfl, hyes, hno, hbt⟩ := hcut
        go_step
        obtain ⟨wt, rfl⟩ : ∃ wt : World, wt = wc := ⟨_, rfl⟩
        have Hyes := Lib.hid hyes
        have Hno := Lib.hid hno
        have Ho10t := Lib.hid (ownsRow_below' Ho10.out hbt)
        have Hbt := Lib.hid (Hby.out.trans (hbt.mono hwy))
        have hwt := Hbt.out.size
        have hg10t := (Ho10t.out.lt g10 rfl).2
        obtain ⟨u', hu'⟩ : ∃ u', u' = T.minus u1 u2 := ⟨_, rfl⟩
        have hcase : (bb = false ∧ u' = u1) ∨ (bb = true ∧ ∃ n m e q r, u1 = .c n e q ∧ u2 = .c m e r ∧ u' = .c (n - m) e q) := by
          cases bb with
          | false => exact .inl ⟨rfl, by rw [hu']; exact min_not_same Hstop.out (hno rfl)⟩
          | true =>
            obtain ⟨n, e, q, m, r, h1, h2, h3⟩ := hyes rfl
            exact .inr ⟨rfl, n, m, e, q, r, h1, h2, by rw [hu', h1, h2, T.minus_less q r (T.cmp_refl e) h3]⟩
        have hcn : u'.cnt = un := by
          rcases hcase with ⟨_, h⟩ | ⟨_, n, m, e, q, r, h1, _, h⟩
          · rw [h, Hun.out]
          · rw [h, Hun.out, h1]; rfl
        have hEu : EC w2 u' (es6.drop i) := ec_same HEd.out (by
          rcases hcase with ⟨_, h⟩ | ⟨_, n, m, e, q, r, h1, _, h⟩
          · exact .inl h
          · exact .inr ⟨n, n - m, e, q, h1, h⟩)
        have hru : rr = u' := by rw [Hrr.out, Hmin.out, hu']
        have Hcase := Lib.hid hcase
        have Hcn := Lib.hid hcn
        have HEu := Lib.hid hEu
        have Hru := Lib.hid hru
        have hlu : u'.enc.length ≤ 1000000000000 := by rw [← hru]; exact hml
        clear hyes hno hbt hu' hcase hcn hEu hru
        go_upto_if 80 with fail
        go_cut [10] (fun v10 wx => v10 = .slice (some ⟨g10, 0, none⟩) un c10 ∧ wx.ownsRow w2.heap.size 3 1 v10 un (ints u'.times) ∧ Below w2.heap.size w2 wx)
        case first =>
          rcases Hcase.out with ⟨rfl, h⟩ | ⟨rfl, n, m, e, q, r, h1, h2, h⟩
          · have hfin : wt.ownsRow w2.heap.size 3 1 (.slice (some ⟨g10, 0, none⟩) un c10) un (ints u'.times) := by rw [h]; exact Ho10t.out
            have Hfin := Lib.hid hfin
            clear h hfin
            go_wp2_with fail
            go_meet
            exact ⟨rfl, Hfin.out, Hbt.out⟩
          · have hdd1 : d.app (.c n e q) = s := by rw [← h1]; exact Hd1.out
            have hdd2 : d.app (.c m e r) = t := by rw [← h2]; exact Hd2.out
            have x5 : wt.cell? ⟨g5, i, none⟩ = some (.int .i64 n) := (Hbt.out.cell (p := ⟨g5, i, none⟩) hg5').trans (own_at Ho5'.out (by rw [List.getElem?_map, T.times_pick hdd1 Hdi.out]; rfl))
            have x7 : wt.cell? ⟨g7, i, none⟩ = some (.int .i64 m) := (Hbt.out.cell (p := ⟨g7, i, none⟩) hg7).trans (own_at Ho7.out (by rw [List.getElem?_map, T.times_pick hdd2 Hdi.out]; rfl))
            have hlt : i < nx := by have := Hun1.out; have h3 := Hun.out; rw [h1] at h3; simp only [T.cnt] at h3; omega
            have hlt2 : i < nt := by have h3 := Hct.out.2; rw [h2] at h3; simp only [T.cnt] at h3; omega
            have hunp : (0 : Int) < (un : Int) := by have := Hun1.out; omega
            have hunn : 0 < un := by omega
            have hnb := Htm.out n (by rw [← hdd1, T.times_app]; simp [T.times])
            have hmb := Htm2.out m (by rw [← hdd2, T.times_app]; simp [T.times])
            have qw : IntKind.i64.wrap (n - m) = n - m := IntWalk.i64_in _ (by omega)
            have hc0 : wt.cell? ⟨g10, 0, none⟩ = some (.int .i64 n) := own_at Ho10t.out (by rw [h1]; rfl)
            have hf0 := Ho10t.out.frozenAt 0
            have hset : (ints u1.times).set 0 (.int .i64 (n - m)) = ints u'.times := by rw [h1, h]; rfl
            have hfin : (wt.drew.setCell ⟨g10, 0, none⟩ (.int .i64 (n - m))).ownsRow w2.heap.size 3 1 (.slice (some ⟨g10, 0, none⟩) un c10) un (ints u'.times) ∧ Below w2.heap.size w2 (wt.drew.setCell ⟨g10, 0, none⟩ (.int .i64 (n - m))) := by
              have h5 := (Ho10t.out.drew.stored 0 (.int .i64 (n - m))).1
              rw [hset] at h5
              exact ⟨h5, Hbt.out.drew.setCell (by show w2.heap.size ≤ g10; exact (Ho10t.out.lt g10 rfl).1) _⟩
            have Hfin := Lib.hid hfin
            clear h h1 h2 hdd1 hdd2 hset hfin hnb hmb
            go_wp2_with fail
            go_still_tail 11, (by kernel_rfl)
            change wpList _ _ _ _ _ wt.drew
            go_wp2_with fail
            go_meet
            exact ⟨rfl, Hfin.out.1, Hfin.out.2⟩
        case rest =>
          obtain ⟨rfl, ho, hbq⟩ := hcut
          go_step
          obtain ⟨wq, rfl⟩ : ∃ wq : World, wq = wc := ⟨_, rfl⟩
          have Hbq := Lib.hid hbq
          have hwq := hbq.size
          have Hsl := Lib.hid (Sl.of_own ho)
          have hes : ∀ j v, (es6.drop i)[j]? = some v → wq.cell? ⟨g6, i + j, none⟩ = some v := fun j v hj => by
            rw [hbq.cell (p := ⟨g6, i + j, none⟩) hg6']
            exact own_at Ho6'.out (by rw [List.getElem?_drop] at hj; exact hj)
          have Hes := Lib.hid hes
          have Hcap := Lib.hid hcap6
          have hfin : ∀ e w', (∃ a' c', e = .returned (.slice a' u'.enc.length c') ∧ w'.ownsRow wq.heap.size 3 1 (.slice a' u'.enc.length c') u'.enc.length (ints u'.enc) ∧ Below wq.heap.size wq w') → IntPost w rr.enc e w' := by
            rintro e w' ⟨a', c', rfl, ho', hb'⟩
            rw [Hru.out]
            exact ⟨a', c', rfl, Joins.ownsRow_le ho' (Nat.le_trans Hb12.out.size hwq), Hb12.out.trans ((Hbq.out.trans (hb'.mono hwq)).mono Hb12.out.size)⟩
          have Hfin := Lib.hid hfin
          clear ho hbq hes hfin
          by_cases hc : c6 = i
          · have hun0 : un = 0 := by have := Hun1.out; omega
            have hci : (c6 : Int) = (i : Int) := by omega
            have hxi : nx = i := by have := Hun1.out; omega
            have hk := Lib.hid (l1Make_at (some ⟨g10, 0, none⟩) (some ⟨g6, 0, none⟩) un c10 0 u' wq hlu ⟨Hcn.out.symm, _, HEu.out.below Hbq.out, fun h => by omega⟩ Hsl.out)
            rw [hun0] at hk ⊢
            subst hxi
            subst hc
            clear hci hun0
            rw [← Hrr.out]
            go_wp2_with fail
            refine (hk.out).mono ?_
            rintro ee w5 ⟨a5, c5', rfl, ho5, hb5⟩
            have Hf := Lib.hid (Hfin.out _ _ ⟨a5, c5', rfl, ho5, hb5⟩)
            clear ho5 hb5
            go_wp2_with fail
            go_ret
            exact Hf.out
          · have hci : ¬ (c6 : Int) = (i : Int) := by omega
            have hk := Lib.hid (l1Make_at (some ⟨g10, 0, none⟩) (some ⟨g6, i, none⟩) un c10 (c6 - i) u' wq hlu ⟨Hcn.out.symm, _, HEu.out.below Hbq.out, fun h => ⟨g6, i, rfl, by omega, Hes.out⟩⟩ Hsl.out)
            obtain rfl : nx = i + un := Hun1.out
            have hsub : i + un - i = un := by omega
            rw [← Hrr.out]
            go_wp2_with fail
            refine (hk.out).mono ?_
            rintro ee w5 ⟨a5, c5', rfl, ho5, hb5⟩
            have Hf := Lib.hid (Hfin.out _ _ ⟨a5, c5', rfl, ho5, hb5⟩)
            clear ho5 hb5
            go_wp2_with fail
            go_ret
            exact Hf.out

end Go.Proofs.Ytaleaagnkfbhpab
