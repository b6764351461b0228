/- The program's termsBehind. -/
import Derived.Test.YtaleaagnkfbhpabMin
import Derived.Test.YtaleaagnkfbhpabNatI
import Derived.Test.YtaleaagnkfbhpabCat
import Derived.Test.YtaleaagnkfbhpabAt
import Derived.Test.YtaleaagnkfbhpabMulI
namespace Go.Proofs.Ytaleaagnkfbhpab
open Go.RowKit

def RvPost (w : World) (t : T) (e : Ending) (w' : World) : Prop := ∃ a n c, e = .returned (.slice a n c) ∧ Tmo w' a n t ∧ Below w.heap.size w w'

def BehindRel (w : World) (s t : T) (gk : Nat) (v9 : Value) (wr : World) : Prop :=
  ∃ (i : Nat) (d u1 u2 : T), v9 = .int .i64 i ∧ gk + i = s.cnt ∧ d.app u1 = s ∧ d.app u2 = t ∧ d.cnt = i ∧ T.minus s t = T.minus u1 u2 ∧ u1.cmp u2 ≠ -1 ∧ Below w.heap.size w wr

/-- All of them from a place on. -/
theorem Rw.from {w : World} {b o n c : Nat} {d u : T} {l : List Value} (h : Rw w b o n c (d.app u) l) (hu : 0 < u.cnt) : Tmo w (some ⟨b, o + d.cnt * 2, none⟩) (n - d.cnt) u := by
  obtain ⟨h1, h2, h3, h4, h5, h6⟩ := h
  refine ⟨by rw [T.app_cnt] at h1; omega, l.drop (2 * d.cnt), h4.back, fun _ => ⟨b, _, rfl, h5, fun j v hj => ?_⟩⟩
  rw [List.getElem?_drop] at hj
  rw [show o + d.cnt * 2 + j = o + (2 * d.cnt + j) by omega]
  exact h6 _ _ hj

theorem Rw.rd_from {w : World} {b o n c k : Nat} {d u : T} {l : List Value} (h : Rw w b o n c (d.app u) l) (hk : d.cnt = k) : ∀ c', Rd w (some ⟨b, o + k * 2, none⟩) (n - k) c' (l.drop (2 * k)) := by
  intro c'
  obtain ⟨h1, h2, h3, h4, h5, h6⟩ := h
  have hl := h4.length
  rw [T.app_cnt] at h1 hl
  refine ⟨by rw [List.length_drop]; omega, fun u hu => h4.one u (List.mem_of_mem_drop hu), .inr ⟨b, _, rfl, fun j v hj => ?_⟩⟩
  rw [List.getElem?_drop] at hj
  rw [Addr.add_lit, show o + k * 2 + j = o + (2 * k + j) by omega]
  exact h6 _ _ hj

theorem Tmo.of_own {w : World} {B n cap : Nat} {ao : Option Addr} {t : T} {cs : List Value} (h : w.ownsRow B 53 2 (.slice ao n cap) n cs) (hT : TC w t cs) (hn : n = t.cnt) : Tmo w ao n t := by
  refine ⟨hn, cs, hT, fun hp => ?_⟩
  obtain ⟨g, cap', hv⟩ := Joins.ownsRow_form h hp
  simp at hv
  obtain ⟨rfl, rfl⟩ := hv
  refine ⟨g, 0, rfl, (h.lt g rfl).2, fun j u hj => ?_⟩
  have hl := hT.length
  have hjl := (List.getElem?_eq_some_iff.1 hj).1
  rw [Nat.zero_add, h.cellAt j (by omega)]
  exact hj

/-- The numbers and exponents of those that stand in both. -/
theorem Rw.pick {w : World} {b o n c k : Nat} {t d e r : T} {x : Int} {l : List Value} (h : Rw w b o n c t l) (hd : d.app (.c x e r) = t) (hk : d.cnt = k) :
    ∃ be oe ce, w.cell? ⟨b, o + k * 2, none⟩ = some (.int .i64 x) ∧ w.cell? ⟨b, o + k * 2 + 1, none⟩ = some (.slice (some ⟨be, oe, none⟩) e.enc.length ce) ∧ At w be oe e.enc ∧ e.enc.length ≤ ce ∧ ce ≤ maxLen := by
  obtain ⟨be, oe, ce, p1, p2, p3, p4, p5⟩ := h.2.2.2.1.pick hd hk
  exact ⟨be, oe, ce, h.2.2.2.2.2 (k * 2) _ (by rw [Nat.mul_comm]; exact p1), h.2.2.2.2.2 (k * 2 + 1) _ (by rw [Nat.mul_comm]; exact p2), p3, p4, p5⟩

theorem cat2_cells (w : World) (x : Int) (V V1 V2 : Value) (t1 t2 : TypeId) (hV : V.oneCell' = true) :
    (((w.alloc (.cells #[.int .i64 x, V] t1)).alloc (.cells #[V1, V2] t2)).drew).cell? ⟨w.heap.size + 1, 0, none⟩ = some V1 ∧
    (((w.alloc (.cells #[.int .i64 x, V] t1)).alloc (.cells #[V1, V2] t2)).drew).cell? ⟨w.heap.size + 1, 1, none⟩ = some V2 ∧
    Rd (((w.alloc (.cells #[.int .i64 x, V] t1)).alloc (.cells #[V1, V2] t2)).drew) (some ⟨w.heap.size, 0, none⟩) 1 1 [.int .i64 x, V] := by
  have h3 : ∀ i, (((w.alloc (.cells #[.int .i64 x, V] t1)).alloc (.cells #[V1, V2] t2)).drew).cell? ⟨w.heap.size + 1, i, none⟩ = #[V1, V2][i]? := fun i => by
    show ((w.alloc (.cells #[.int .i64 x, V] t1)).alloc (.cells #[V1, V2] t2)).cell? _ = _
    exact Joins.cell_alloc_mark_at _ _ _ _ _ _ (by simp)
  have h2 : ∀ i, (((w.alloc (.cells #[.int .i64 x, V] t1)).alloc (.cells #[V1, V2] t2)).drew).cell? ⟨w.heap.size, i, none⟩ = #[.int .i64 x, V][i]? := fun i => by
    show ((w.alloc (.cells #[.int .i64 x, V] t1)).alloc (.cells #[V1, V2] t2)).cell? _ = _
    rw [World.cell?_alloc_past _ _ _ (by simp)]
    exact Joins.cell_alloc_mark_at _ _ _ _ _ _ rfl
  refine ⟨h3 0, h3 1, rfl, ?_, .inr ⟨w.heap.size, 0, rfl, fun j u hj => ?_⟩⟩
  · intro u hu
    simp at hu
    rcases hu with rfl | rfl
    · rfl
    · exact hV
  · rw [Addr.add_lit, Nat.zero_add, h2 j]
    simpa using hj

set_option maxRecDepth 100000 in
set_option maxHeartbeats 4000000 in
theorem termsBehind_any (b1 o1 n1 c1 b2 o2 n2 c2 : Nat) (s t : T) (l1 l2 : List Value) (w : World) (h1 : Rw w b1 o1 n1 c1 s l1) (h2 : Rw w b2 o2 n2 c2 t l2) (hl1 : s.enc.length ≤ 1000) (hl2 : t.enc.length ≤ 1000)
    (htm : ∀ x ∈ s.times, -1000000000 ≤ x ∧ x ≤ 1000000000) (htm2 : ∀ x ∈ t.times, -1000000000 ≤ x ∧ x ≤ 1000000000) (hge : s.cmp t ≠ -1) :
    Calls Try.prog 48 #[.slice (some ⟨b1, o1, none⟩) n1 c1, .slice (some ⟨b2, o2, none⟩) n2 c2] w (RvPost w (T.minus s t)) := by
  have hn1 : n1 ≤ 1000 := by have h3 := h1.1; have := T.cnt_le s; have := T.enc_len s; omega
  have hn2 : n2 ≤ 1000 := by have h3 := h2.1; have := T.cnt_le t; have := T.enc_len t; omega
  have hc1 : n1 ≤ c1 := h1.2.1
  have hm1 : c1 ≤ maxLen := h1.2.2.1
  have hc2 : n2 ≤ c2 := h2.2.1
  have hb1 : b1 < w.heap.size := h1.2.2.2.2.1
  have hb2 : b2 < w.heap.size := h2.2.2.2.2.1
  have Hn1 := Lib.hid h1.1
  have Hn2 := Lib.hid h2.1
  have H1 := Lib.hid h1
  have H2 := Lib.hid h2
  have Htm := Lib.hid htm
  have Htm2 := Lib.hid htm2
  have hst : BehindRel w s t n1 (.int .i64 (0 : Nat)) w := ⟨0, .z, s, t, rfl, h1.1, rfl, rfl, rfl, rfl, hge, Below.refl _ _⟩
  have Hst := Lib.hid hst
  have HFL := Lib.hid (show ∀ (d : T) (n : Int) (f r : T), (d.app (.c n f r) = s ∨ d.app (.c n f r) = t) → f.enc.length ≤ 5000 by
    rintro d n f r (h | h)
    all_goals (
      have h1 := congrArg (fun x => T.body x) h
      have h2 := congrArg List.length h1
      simp only [T.app_body, T.body_c, List.length_append, List.length_cons] at h2
      have := T.enc_len s
      have := T.enc_len t
      omega))
  clear h1 h2 htm htm2 hge hst
  go_enter Try.func48, Try.ntmps48
  go_wp2_with fail
  go_loopg [9] n1 (fun gk v9 wr => BehindRel w s t gk v9 wr)
  case atStart => exact Hst.out
  case round =>
    obtain ⟨i, d, u1, u2, rfl, hgk, hd1, hd2, hdi, hmin, hcm, hbw⟩ := hrel
    have Hgk := Lib.hid hgk
    have Hd1 := Lib.hid hd1
    have Hd2 := Lib.hid hd2
    have Hdi := Lib.hid hdi
    have Hmin := Lib.hid hmin
    have Hcm := Lib.hid hcm
    have Hbw := Lib.hid hbw
    have hws := hbw.size
    have hct : n1 = i + u1.cnt ∧ n2 = i + u2.cnt := ⟨by rw [Hn1.out, ← hd1, T.app_cnt, hdi], by rw [Hn2.out, ← hd2, T.app_cnt, hdi]⟩
    have Hct := Lib.hid hct
    have hi1 : i ≤ n1 := by omega
    have hi2 : i ≤ n2 := by omega
    have H1r := Lib.hid (H1.out.below hbw)
    have H2r := Lib.hid (H2.out.below hbw)
    clear hgk hd1 hd2 hdi hmin hcm hbw hct
    by_cases hlt : i < n1
    · obtain ⟨n, e, q, hu1⟩ : ∃ n e q, u1 = .c n e q := T.cnt_pos (by have := Hct.out.1; omega)
      subst hu1
      obtain ⟨be, oe, ce, x0, x1, hate, hce, hcem⟩ := H1r.out.pick Hd1.out Hdi.out
      have Hate := Lib.hid hate
      have hel : e.enc.length ≤ 5000 := HFL.out d n e q (.inl Hd1.out)
      have hb1r : b1 < wr.heap.size := by omega
      have hb2r : b2 < wr.heap.size := by omega
      have hci : ¬ c1 = i := by omega
      have hci2 : ¬ (c1 : Int) = (i : Int) := by omega
      have hi3 : (i : Int) ≤ (n1 : Int) := by omega
      have hi4 : (n1 : Int) ≤ (c1 : Int) := by omega
      have hi5 : (i : Int) ≤ (c1 : Int) := by omega
      have hfrom : ∀ wx, Below wr.heap.size wr wx → T.minus s t = .c n e q → RvPost w (T.minus s t) (.returned (.slice (some ⟨b1, o1 + i * 2, none⟩) (n1 - i) (c1 - i))) wx := by
        intro wx hb hm
        have h1 := H1r.out.below hb
        rw [← Hd1.out] at h1
        have h2 := h1.from (by simp [T.cnt])
        rw [Hdi.out] at h2
        rw [hm]
        exact ⟨_, _, _, rfl, h2, Hbw.out.trans (hb.mono hws)⟩
      have Hfrom := Lib.hid hfrom
      clear hate hfrom
      by_cases hz : u2 = .z
      · have hin : n2 = i := by have h1 := Hct.out.2; rw [hz] at h1; simpa [T.cnt] using h1
        have hq : ((i : Int) == (n2 : Int)) = true := by simp; omega
        have hm : T.minus s t = .c n e q := by rw [Hmin.out, hz, T.minus_z]
        have Hm := Lib.hid hm
        clear hz hm
        go_wp2_with fail
        go_quiet (fail)
        go_wp2_with fail
        go_ret
        exact Hfrom.out _ (((Below.refl wr.heap.size wr).alloc (Nat.le_refl _) _).trans (Joins.below_draws _ _ _)) Hm.out
      · obtain ⟨m, f, r, hu2⟩ : ∃ m f r, u2 = .c m f r := by
          cases u2 with
          | z => exact absurd rfl hz
          | c m f r => exact ⟨m, f, r, rfl⟩
        subst hu2
        obtain ⟨bf, of, cf, y0, y1, hatf, hcf, hcfm⟩ := H2r.out.pick Hd2.out Hdi.out
        have hfl : f.enc.length ≤ 5000 := HFL.out d m f r (.inr Hd2.out)
        have hlt2 : i < n2 := by have h1 := Hct.out.2; simp only [T.cnt] at h1; omega
        have hq : ((i : Int) == (n2 : Int)) = false := by simp; omega
        have hnb := Htm.out n (by rw [← Hd1.out, T.times_app]; simp [T.times])
        have hmb := Htm2.out m (by rw [← Hd2.out, T.times_app]; simp [T.times])
        have Hatf := Lib.hid hatf
        clear hz hatf
        go_upto_region 4 with fail
        obtain ⟨wb, hwb⟩ : ∃ wb, wb = wr.alloc (.cells #[.int .i64 n, .slice (some ⟨be, oe, none⟩) e.enc.length ce] 53) := ⟨_, rfl⟩
        rw [← hwb]
        have hBr : Below wr.heap.size wr wb := by rw [hwb]; exact (Below.refl _ _).alloc (Nat.le_refl _) _
        have hB1 : wr.heap.size < wb.heap.size := by rw [hwb, World.size_alloc]; omega
        have z0 : wb.cell? ⟨wr.heap.size, 0, none⟩ = some (.int .i64 n) := by rw [hwb, Joins.cell_alloc_mark_at _ _ _ _ _ _ rfl]; rfl
        have z1 : wb.cell? ⟨wr.heap.size, 1, none⟩ = some (.slice (some ⟨be, oe, none⟩) e.enc.length ce) := by rw [hwb, Joins.cell_alloc_mark_at _ _ _ _ _ _ rfl]; rfl
        have hf0 : wb.frozen? ⟨wr.heap.size, 0, none⟩ = false := by rw [hwb]; exact Joins.unfrozen_of_block (heap_alloc_new wr _) 0
        have v0 : wb.cell? ⟨b2, o2 + i * 2, none⟩ = some (.int .i64 m) := (hBr.cell (p := ⟨b2, o2 + i * 2, none⟩) hb2r).trans y0
        have v1 : wb.cell? ⟨b2, o2 + i * 2 + 1, none⟩ = some (.slice (some ⟨bf, of, none⟩) f.enc.length cf) := (hBr.cell (p := ⟨b2, o2 + i * 2 + 1, none⟩) hb2r).trans y1
        have ke := Lib.hid (slicesEqual_any (some ⟨be, oe, none⟩) (some ⟨bf, of, none⟩) e.enc.length ce f.enc.length cf e.enc f.enc wb.drew (by omega)
          ⟨rfl, hce, hcem, fun _ => ⟨be, oe, rfl, Hate.out.below hBr.drew (Hate.out.lt (T.enc_ne e))⟩⟩ ⟨rfl, hcf, hcfm, fun _ => ⟨bf, of, rfl, Hatf.out.below hBr.drew (Hatf.out.lt (T.enc_ne f))⟩⟩)
        have HBr := Lib.hid hBr
        have Hf0 := Lib.hid hf0
        clear hwb hBr hf0 x0 x1 y0 y1
        by_cases hef : e.cmp f = 0
        · have hefq := T.cmp_eq hef
          subst hefq
          rw [eqB_refl] at ke
          have hm0 : ¬ n < m := by
            intro h
            have h1 := Hcm.out
            rw [T.cmp_less _ _ _ h] at h1
            exact h1 rfl
          have Hef := Lib.hid hef
          clear hef
          go_wp2_with fail
          go_still_tail 12, (by kernel_rfl)
          change wpList _ _ _ _ _ wb.drew
          go_wp2_with fail
          refine (ke.out).mono ?_
          rintro ee w3 ⟨rfl, hb3⟩
          have hb3' : Below wb.heap.size wb w3 := ((Below.refl wb.heap.size wb).drew).trans hb3
          have Hb3 := Lib.hid (HBr.out.trans (hb3'.mono HBr.out.size))
          have z0' : w3.cell? ⟨wr.heap.size, 0, none⟩ = some (.int .i64 n) := (hb3'.cell (p := ⟨wr.heap.size, 0, none⟩) hB1).trans z0
          have z1' : w3.cell? ⟨wr.heap.size, 1, none⟩ = some (.slice (some ⟨be, oe, none⟩) e.enc.length ce) := (hb3'.cell (p := ⟨wr.heap.size, 1, none⟩) hB1).trans z1
          have f0' : w3.frozen? ⟨wr.heap.size, 0, none⟩ = false := (hb3'.frozen (p := ⟨wr.heap.size, 0, none⟩) hB1).trans Hf0.out
          have v0' : w3.cell? ⟨b2, o2 + i * 2, none⟩ = some (.int .i64 m) := (hb3'.cell (p := ⟨b2, o2 + i * 2, none⟩) (by show b2 < wb.heap.size; omega)).trans v0
          have hs3 : wr.heap.size < w3.heap.size := by have := hb3'.size; omega
          clear hb3 hb3' z0 z1 v0 v1
          by_cases hnm : n = m
          · subst hnm
            have hnn : ¬ n < n := by omega
            have hfin : ∀ wx, Below wr.heap.size wr wx → BehindRel w s t (gk - 1) (.int .i64 ((i : Int) + 1)) wx := fun wx hb =>
              ⟨i + 1, d.app (.c n e .z), q, r, by go_num, by have := Hgk.out; have := Hn1.out; omega, by rw [T.app_assoc]; exact Hd1.out, by rw [T.app_assoc]; exact Hd2.out, by rw [T.app_cnt, Hdi.out]; rfl,
                by rw [Hmin.out, T.minus_same n q r Hef.out], by have h1 := Hcm.out; rw [T.cmp_same] at h1; exact h1, Hbw.out.trans (hb.mono hws)⟩
            have Hfin := Lib.hid hfin
            clear hfin
            go_wp2_with fail
            go_quiet (fail)
            go_wp2_with fail
            go_roundg (gk - 1)
            case measure => have := Hgk.out; have := Hn1.out; omega
            case rel => exact Hfin.out _ (Hb3.out.trans (Joins.below_draws _ _ _))
          · have hnm2 : m < n := by omega
            have Hnm := Lib.hid hnm
            clear hnm hm0
            go_wp2_with fail
            go_quiet (fail)
            go_wp2_with fail
            generalize hwq : w3.drewN _ = wq
            have hbq : Below w3.heap.size w3 wq := by rw [← hwq]; exact Joins.below_draws _ _ _
            have hBr3 : wr.heap.size < w3.heap.size := hs3
            have q0 : wq.cell? ⟨wr.heap.size, 0, none⟩ = some (.int .i64 n) := (hbq.cell (p := ⟨wr.heap.size, 0, none⟩) hBr3).trans z0'
            have q1 : wq.cell? ⟨wr.heap.size, 1, none⟩ = some (.slice (some ⟨be, oe, none⟩) e.enc.length ce) := (hbq.cell (p := ⟨wr.heap.size, 1, none⟩) hBr3).trans z1'
            have qf : wq.frozen? ⟨wr.heap.size, 0, none⟩ = false := (hbq.frozen (p := ⟨wr.heap.size, 0, none⟩) hBr3).trans f0'
            have qv : wq.cell? ⟨b2, o2 + i * 2, none⟩ = some (.int .i64 m) := (hbq.cell (p := ⟨b2, o2 + i * 2, none⟩) (by show b2 < w3.heap.size; omega)).trans v0'
            have Hbq := Lib.hid (Hb3.out.trans (hbq.mono Hb3.out.size))
            have hsq : wr.heap.size < wq.heap.size := Nat.lt_of_lt_of_le hs3 hbq.size
            have qw : IntKind.i64.wrap (n - m) = n - m := IntWalk.i64_in _ (by omega)
            clear hwq hbq z0' z1' f0' v0'
            go_wp2_with fail
            go_still_tail 9, (by kernel_rfl)
            change wpList _ _ _ _ _ wq.drew
            go_wp2_with fail
            obtain ⟨wS, hwS⟩ : ∃ wS, wS = wq.drew.setCell ⟨wr.heap.size, 0, none⟩ (.int .i64 (n - m)) := ⟨_, rfl⟩
            have s0 : wS.cell? ⟨wr.heap.size, 0, none⟩ = some (.int .i64 (n - m)) := by rw [hwS]; exact set_same q0 _
            have s1 : wS.cell? ⟨wr.heap.size, 1, none⟩ = some (.slice (some ⟨be, oe, none⟩) e.enc.length ce) := by rw [hwS, World.cell?_setCell_other _ _ _ _ (by simp)]; exact q1
            have hbS : Below wr.heap.size wr wS := by rw [hwS]; exact Hbq.out.drew.setCell (Nat.le_refl _) _
            have hszS : wS.heap.size = wq.heap.size := by rw [hwS]; simp
            change Code.wp _ _ _ _ (wq.drew.setCell ⟨wr.heap.size, 0, none⟩ (.int .i64 (n - m)))
            rw [← hwS]
            have HbS := Lib.hid hbS
            have hb1S : wr.heap.size ≤ wS.heap.size := hbS.size
            obtain ⟨K, hK⟩ : ∃ K, K = i + 1 := ⟨_, rfl⟩
            have q2 : IntKind.i64.wrap ((i : Int) + 1) = (K : Int) := by rw [IntWalk.i64_in _ (by omega)]; omega
            have q3 : (0 : Int) ≤ (K : Int) := by omega
            have q4 : (K : Int) ≤ (n1 : Int) := by omega
            have q5 : (K : Int) ≤ (c1 : Int) := by omega
            have q6 : K ≤ c1 := by omega
            have hKn1 : K ≤ n1 := by omega
            have HK := Lib.hid hK
            have hwSs : wr.heap.size < wS.heap.size := by omega
            clear hwS hbS hK hszS
            by_cases hc : c1 = K
            · have hc1K : K = c1 := hc.symm
              have hn1K : K = n1 := by omega
              clear hc hci hci2 hlt
              subst hc1K
              subst hn1K
              have HBQ := Lib.hid (((Below.refl wS.heap.size wS).alloc (Nat.le_refl _) (.cells #[.int .i64 (n - m), .slice (some ⟨be, oe, none⟩) e.enc.length ce] 53)).alloc (by simp) (.cells #[.slice (some ⟨wS.heap.size, 0, none⟩) 1 1, .slice (some ⟨b1, o1, none⟩) 0 0] 44)).drew
              have HBW := Lib.hid (HbS.out.trans (HBQ.out.mono HbS.out.size))
              have HC := Lib.hid (cat2_cells wS (n - m) (.slice (some ⟨be, oe, none⟩) e.enc.length ce) (.slice (some ⟨wS.heap.size, 0, none⟩) 1 1) (.slice (some ⟨b1, o1, none⟩) 0 0) 53 44 rfl)
              have hdi' : (d.app (.c n e .z)).cnt = K := by rw [T.app_cnt, Hdi.out]; exact HK.out.symm
              have hrw : Rw wr b1 o1 K K ((d.app (.c n e .z)).app q) l1 := by rw [T.app_assoc]; show Rw wr b1 o1 K K (d.app (.c n e q)) l1; rw [Hd1.out]; exact H1r.out
              have htb := hrw.2.2.2.1.back
              rw [hdi'] at htb
              have HR : ∀ W, Hid (Rd W (some ⟨b1, o1, none⟩) 0 0 []) := fun W => Lib.hid (⟨rfl, (fun u hu => by cases hu), .inr ⟨b1, o1, rfl, fun j u hj => by simp at hj⟩⟩ : Rd W (some ⟨b1, o1, none⟩) 0 0 [])
              have Htb := Lib.hid htb
              have hKn : K = K + q.cnt := by have h1 := Hct.out.1; have h2 := HK.out; simp only [T.cnt] at h1; omega
              have HKn := Lib.hid hKn
              clear hrw htb hdi' hKn
              go_wp2_with fail
              go_region_held3 (fun w' => w'.cell? ⟨wr.heap.size, 0, none⟩ = some (.int .i64 (n - m)) ∧ w'.cell? ⟨wr.heap.size, 1, none⟩ = some (.slice (some ⟨be, oe, none⟩) e.enc.length ce)) (first | go_keep | exact ⟨kS0, kS1⟩)
                ((first
                  | (go_at_call 56; (refine (concat2_any (wS.heap.size + 1) 2 (some ⟨wS.heap.size, 0, none⟩) (some ⟨b1, o1, none⟩) 1 1 0 0 [.int .i64 (n - m), .slice (some ⟨be, oe, none⟩) e.enc.length ce] [] _ HC.out.1 HC.out.2.1 HC.out.2.2 (HR _).out (by omega) (by omega)).mono ?_); rintro ee w5 ⟨a5, c5, rfl, ho5, hb5⟩; have kS0 := (hb5.cell (p := ⟨wr.heap.size, 0, none⟩) (by simp; omega)).trans ((HBQ.out.cell (p := ⟨wr.heap.size, 0, none⟩) (by show wr.heap.size < wS.heap.size; omega)).trans s0); have kS1 := (hb5.cell (p := ⟨wr.heap.size, 1, none⟩) (by simp; omega)).trans ((HBQ.out.cell (p := ⟨wr.heap.size, 1, none⟩) (by show wr.heap.size < wS.heap.size; omega)).trans s1))
                  | fail))
              have hfin : RvPost w (T.minus s t) (.returned (.slice a5 (1 + 0) c5)) w5 := by
                have hbt := HBW.out.trans (hb5.mono HBW.out.size)
                have hTC : TC wr (.c (n - m) e q) (.int .i64 (n - m) :: .slice (some ⟨be, oe, none⟩) e.enc.length ce :: l1.drop (2 * K)) := ⟨be, oe, ce, _, rfl, Hate.out, hce, hcem, Htb.out⟩
                refine ⟨a5, _, c5, rfl, ?_, Hbw.out.trans (hbt.mono hws)⟩
                rw [Hmin.out, T.minus_less q r Hef.out Hnm.out]
                have hl0 : l1.drop (2 * K) = [] := List.length_eq_zero_iff.1 (by rw [Htb.out.length]; have := HKn.out; omega)
                refine Tmo.of_own ho5 ?_ (by have := HKn.out; simp only [T.cnt]; omega)
                rw [hl0] at hTC; exact hTC.below hbt
              have Hfin := Lib.hid hfin
              clear hfin ho5 hb5 kS0 kS1
              go_wp2_with fail
              go_ret
              exact Hfin.out
            · have hc' : ¬ (c1 : Int) = (K : Int) := by omega
              have HBQ := Lib.hid (((Below.refl wS.heap.size wS).alloc (Nat.le_refl _) (.cells #[.int .i64 (n - m), .slice (some ⟨be, oe, none⟩) e.enc.length ce] 53)).alloc (by simp) (.cells #[.slice (some ⟨wS.heap.size, 0, none⟩) 1 1, .slice (some ⟨b1, o1 + K * 2, none⟩) (n1 - K) (c1 - K)] 44)).drew
              have HBW := Lib.hid (HbS.out.trans (HBQ.out.mono HbS.out.size))
              have HC := Lib.hid (cat2_cells wS (n - m) (.slice (some ⟨be, oe, none⟩) e.enc.length ce) (.slice (some ⟨wS.heap.size, 0, none⟩) 1 1) (.slice (some ⟨b1, o1 + K * 2, none⟩) (n1 - K) (c1 - K)) 53 44 rfl)
              have hdi' : (d.app (.c n e .z)).cnt = K := by rw [T.app_cnt, Hdi.out]; exact HK.out.symm
              have hrw : Rw wr b1 o1 n1 c1 ((d.app (.c n e .z)).app q) l1 := by rw [T.app_assoc]; show Rw wr b1 o1 n1 c1 (d.app (.c n e q)) l1; rw [Hd1.out]; exact H1r.out
              have htb := hrw.2.2.2.1.back
              rw [hdi'] at htb
              have HR := Lib.hid (show Rd _ (some ⟨b1, o1 + K * 2, none⟩) (n1 - K) (c1 - K) (l1.drop (2 * K)) from ((hrw.rd_from hdi' (c1 - K)).below HBW.out))
              have Htb := Lib.hid htb
              have hKn : n1 = K + q.cnt := by have h1 := Hct.out.1; have h2 := HK.out; simp only [T.cnt] at h1; omega
              have HKn := Lib.hid hKn
              clear hrw htb hdi' hKn
              go_wp2_with fail
              go_region_held3 (fun w' => w'.cell? ⟨wr.heap.size, 0, none⟩ = some (.int .i64 (n - m)) ∧ w'.cell? ⟨wr.heap.size, 1, none⟩ = some (.slice (some ⟨be, oe, none⟩) e.enc.length ce)) (first | go_keep | exact ⟨kS0, kS1⟩)
                ((first
                  | (go_at_call 56; (refine (concat2_any (wS.heap.size + 1) 2 (some ⟨wS.heap.size, 0, none⟩) (some ⟨b1, o1 + K * 2, none⟩) 1 1 (n1 - K) (c1 - K) [.int .i64 (n - m), .slice (some ⟨be, oe, none⟩) e.enc.length ce] (l1.drop (2 * K)) _ HC.out.1 HC.out.2.1 HC.out.2.2 HR.out (by omega) (by omega)).mono ?_); rintro ee w5 ⟨a5, c5, rfl, ho5, hb5⟩; have kS0 := (hb5.cell (p := ⟨wr.heap.size, 0, none⟩) (by simp; omega)).trans ((HBQ.out.cell (p := ⟨wr.heap.size, 0, none⟩) (by show wr.heap.size < wS.heap.size; omega)).trans s0); have kS1 := (hb5.cell (p := ⟨wr.heap.size, 1, none⟩) (by simp; omega)).trans ((HBQ.out.cell (p := ⟨wr.heap.size, 1, none⟩) (by show wr.heap.size < wS.heap.size; omega)).trans s1))
                  | fail))
              have hfin : RvPost w (T.minus s t) (.returned (.slice a5 (1 + (n1 - K)) c5)) w5 := by
                have hbt := HBW.out.trans (hb5.mono HBW.out.size)
                have hTC : TC wr (.c (n - m) e q) (.int .i64 (n - m) :: .slice (some ⟨be, oe, none⟩) e.enc.length ce :: l1.drop (2 * K)) := ⟨be, oe, ce, _, rfl, Hate.out, hce, hcem, Htb.out⟩
                refine ⟨a5, _, c5, rfl, ?_, Hbw.out.trans (hbt.mono hws)⟩
                rw [Hmin.out, T.minus_less q r Hef.out Hnm.out]
                have hl0 : True := trivial
                refine Tmo.of_own ho5 ?_ (by have := HKn.out; simp only [T.cnt]; omega)
                exact hTC.below hbt
              have Hfin := Lib.hid hfin
              clear hfin ho5 hb5 kS0 kS1
              go_wp2_with fail
              go_ret
              exact Hfin.out
        · have heq : eqB e.enc f.enc = false := by
            rw [eqB, decide_eq_false_iff_not]
            intro h
            exact hef (T.cmp_eq_iff.2 (T.enc_inj' h))
          have hm : T.minus s t = .c n e q := by rw [Hmin.out, T.minus_else n m q r hef]
          rw [heq] at ke
          have Hm := Lib.hid hm
          clear hef heq hm
          go_wp2_with fail
          go_still_tail 12, (by kernel_rfl)
          change wpList _ _ _ _ _ wb.drew
          go_wp2_with fail
          refine (ke.out).mono ?_
          rintro ee w3 ⟨rfl, hb3⟩
          have Hb3 := Lib.hid (HBr.out.trans ((((Below.refl wb.heap.size wb).drew).trans hb3).mono HBr.out.size))
          clear hb3 z0 z1 v0 v1
          go_wp2_with fail
          go_ret
          exact Hfrom.out _ Hb3.out Hm.out
    · have hu1 : u1 = .z := T.cnt_zero (by have := Hct.out.1; omega)
      have hfin : RvPost w (T.minus s t) (.returned (.slice none 0 0)) wr := ⟨none, 0, 0, rfl, ⟨by rw [Hmin.out, hu1, T.z_minus]; rfl, [], by rw [Hmin.out, hu1, T.z_minus]; rfl, fun h => by omega⟩, Hbw.out⟩
      have Hfin := Lib.hid hfin
      clear hfin hu1
      go_wp2_with fail
      go_ret
      exact Hfin.out

end Go.Proofs.Ytaleaagnkfbhpab
