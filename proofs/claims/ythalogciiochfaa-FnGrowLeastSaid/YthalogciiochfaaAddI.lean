/- The program's sums. -/
import Derived.Test.YthalogciiochfaaAdd
import Derived.Test.YthalogciiochfaaConcat
import Derived.Test.YthalogciiochfaaBefore
import Derived.Test.YthalogciiochfaaOld
import Derived.Deep.CutBlock
import Derived.StillTailTactics
namespace Go.Proofs.Ythalogciiochfaa
set_option maxRecDepth 100000
open Go.RowKit

theorem TC.join {w : World} {d u : T} {cs ds : List Value} (h : TC w d cs) (k : TC w u ds) : TC w (d.app u) (cs ++ ds) := by
  induction d generalizing cs with
  | z => simp only [TC] at h; subst h; exact k
  | c n e r _ ih =>
    obtain ⟨b, off, cap, cs', rfl, h1, h2, h3, h4⟩ := h
    exact ⟨b, off, cap, _, rfl, h1, h2, h3, ih h4⟩
theorem TC.back {w : World} {d u : T} {cs : List Value} (h : TC w (d.app u) cs) : TC w u (cs.drop (2 * d.cnt)) := by
  induction d generalizing cs with
  | z => simpa [T.cnt, T.app] using h
  | c n e r _ ih =>
    obtain ⟨b, off, cap, cs', rfl, h1, h2, h3, h4⟩ := h
    have := ih h4
    rw [show 2 * (T.c n e r).cnt = 2 * r.cnt + 1 + 1 by simp [T.cnt]; omega]
    simpa using this
theorem TC.one {w : World} {t : T} {cs : List Value} (h : TC w t cs) : ∀ u ∈ cs, u.oneCell' = true := by
  induction t generalizing cs with
  | z => simp only [TC] at h; subst h; intro u hu; cases hu
  | c n e r _ ih =>
    obtain ⟨b, off, cap, cs', rfl, h1, h2, h3, h4⟩ := h
    intro u hu
    rcases List.mem_cons.1 hu with rfl | hu
    · rfl
    · rcases List.mem_cons.1 hu with rfl | hu
      · rfl
      · exact ih h4 u hu

theorem set_same {w : World} {b : Nat} {u : Value} (h : w.cell? ⟨b, 0, none⟩ = some u) (v : Value) : (w.drew.setCell ⟨b, 0, none⟩ v).cell? ⟨b, 0, none⟩ = some v := by
  exact World.cell?_setCell_same' _ _ _ (by show (w.cell? _).isSome = true; rw [h]; rfl)

/-- What stands in the row of slices, and in the row of one term. -/
theorem cat_cells (w : World) (x : Int) (V V1 V2 V3 : Value) (t1 t2 : TypeId) (hV : V.oneCell' = true) :
    (((w.alloc (.cells #[.int .i64 x, V] t1)).alloc (.cells #[V1, V2, V3] t2)).drew).cell? ⟨w.heap.size + 1, 0, none⟩ = some V1 ∧
    (((w.alloc (.cells #[.int .i64 x, V] t1)).alloc (.cells #[V1, V2, V3] t2)).drew).cell? ⟨w.heap.size + 1, 1, none⟩ = some V2 ∧
    (((w.alloc (.cells #[.int .i64 x, V] t1)).alloc (.cells #[V1, V2, V3] t2)).drew).cell? ⟨w.heap.size + 1, 2, none⟩ = some V3 ∧
    Rd (((w.alloc (.cells #[.int .i64 x, V] t1)).alloc (.cells #[V1, V2, V3] t2)).drew) (some ⟨w.heap.size, 0, none⟩) 1 1 [.int .i64 x, V] := by
  have h3 : ∀ i, (((w.alloc (.cells #[.int .i64 x, V] t1)).alloc (.cells #[V1, V2, V3] t2)).drew).cell? ⟨w.heap.size + 1, i, none⟩ = #[V1, V2, V3][i]? := fun i => by
    show ((w.alloc (.cells #[.int .i64 x, V] t1)).alloc (.cells #[V1, V2, V3] t2)).cell? _ = _
    exact Joins.cell_alloc_mark_at _ _ _ _ _ _ (by simp)
  have h2 : ∀ i, (((w.alloc (.cells #[.int .i64 x, V] t1)).alloc (.cells #[V1, V2, V3] t2)).drew).cell? ⟨w.heap.size, i, none⟩ = #[.int .i64 x, V][i]? := fun i => by
    show ((w.alloc (.cells #[.int .i64 x, V] t1)).alloc (.cells #[V1, V2, V3] t2)).cell? _ = _
    rw [World.cell?_alloc_past _ _ _ (by simp)]
    exact Joins.cell_alloc_mark_at _ _ _ _ _ _ rfl
  refine ⟨h3 0, h3 1, h3 2, rfl, ?_, .inr ⟨w.heap.size, 0, rfl, fun j u hj => ?_⟩⟩
  · intro u hu
    simp at hu
    rcases hu with rfl | rfl
    · rfl
    · exact hV
  · rw [Addr.add_lit, Nat.zero_add, h2 j]
    simpa using hj

/-- A slice of terms at the head of a block. -/
def Tz (w : World) (g n c : Nat) (t : T) (cs : List Value) : Prop :=
  n = t.cnt ∧ n ≤ c ∧ c ≤ maxLen ∧ TC w t cs ∧ g < w.heap.size ∧ ∀ j, j < 2 * n → w.cell? ⟨g, j, none⟩ = cs[j]?

theorem Tz.below {w w' : World} {g n c : Nat} {t : T} {cs : List Value} (h : Tz w g n c t cs) (hb : Below w.heap.size w w') : Tz w' g n c t cs := by
  obtain ⟨h1, h2, h3, h4, h5, h6⟩ := h
  exact ⟨h1, h2, h3, h4.below hb, Nat.lt_of_lt_of_le h5 hb.size, fun j hj => (hb.cell (p := ⟨g, j, none⟩) h5).trans (h6 j hj)⟩

theorem Tz.tm {w : World} {g n c : Nat} {t : T} {cs : List Value} (h : Tz w g n c t cs) : Tm w (some ⟨g, 0, none⟩) n t := by
  obtain ⟨h1, _, _, h4, h5, h6⟩ := h
  exact ⟨h1, cs, h4, fun _ => ⟨g, rfl, h5, h6⟩⟩

/-- The first ones of them, to be read. -/
theorem Tz.rd_front {w : World} {g n c : Nat} {d u : T} {cs : List Value} (h : Tz w g n c (d.app u) cs) : Rd w (some ⟨g, 0, none⟩) d.cnt c (cs.take (d.cnt * 2)) := by
  obtain ⟨h1, h2, h3, h4, h5, h6⟩ := h
  have hl := h4.length
  rw [T.app_cnt] at h1 hl
  refine ⟨by rw [List.length_take]; omega, fun u hu => h4.one u (List.mem_of_mem_take hu), .inr ⟨g, 0, rfl, fun j u hj => ?_⟩⟩
  have hjl : j < (cs.take (d.cnt * 2)).length := (List.getElem?_eq_some_iff.1 hj).1
  rw [List.length_take] at hjl
  rw [Addr.add_lit, Nat.zero_add, h6 j (by omega)]
  rw [List.getElem?_take_of_lt (by omega)] at hj
  exact hj

/-- All but the first one, to be read. -/
theorem Tz.rd_tail {w : World} {g n c : Nat} {m : Int} {e r : T} {cs : List Value} (h : Tz w g n c (.c m e r) cs) : Rd w (some (if c = 1 then (⟨g, 0, none⟩ : Addr) else ⟨g, 2, none⟩)) r.cnt (c - 1) (cs.drop 2) := by
  obtain ⟨h1, h2, h3, h4, h5, h6⟩ := h
  have hl := h4.length
  simp only [T.cnt] at h1 hl
  refine ⟨by rw [List.length_drop]; omega, fun u hu => h4.one u (List.mem_of_mem_drop hu), ?_⟩
  by_cases hc : c = 1
  · rw [if_pos hc]
    refine .inr ⟨g, 0, rfl, fun j u hj => ?_⟩
    have hjl : j < (cs.drop 2).length := (List.getElem?_eq_some_iff.1 hj).1
    rw [List.length_drop] at hjl
    omega
  · rw [if_neg hc]
    refine .inr ⟨g, 2, rfl, fun j u hj => ?_⟩
    have hjl : j < (cs.drop 2).length := (List.getElem?_eq_some_iff.1 hj).1
    rw [List.length_drop] at hjl
    rw [Addr.add_lit, h6 (2 + j) (by omega)]
    rw [List.getElem?_drop] at hj
    exact hj

def TmPost (w : World) (t : T) (e : Ending) (w' : World) : Prop :=
  ∃ a n c, e = .returned (.slice a n c) ∧ Tm w' a n t ∧ Below w.heap.size w w'

def AddLoop (wb : World) (s e : T) (gk : Nat) (v6 : Value) (wr : World) : Prop :=
  ∃ (k : Nat) (d u : T), v6 = .int .i64 k ∧ gk + k = s.cnt ∧ d.app u = s ∧ d.cnt = k ∧ T.takeGt e s = d.app (T.takeGt e u) ∧ T.dropGt e s = T.dropGt e u ∧ Below wb.heap.size wb wr

def AddAt (wb : World) (s e : T) (v6 : Value) (wr : World) : Prop :=
  ∃ (k : Nat) (d u : T), v6 = .int .i64 k ∧ k ≤ s.cnt ∧ d.app u = s ∧ d.cnt = k ∧ T.takeGt e s = d ∧ T.dropGt e s = u ∧ (∀ n f r, u = .c n f r → f.cmp e ≠ 1) ∧ Below wb.heap.size wb wr

def AddTest (wz : World) (m : Int) (e r u : T) (v : Value) (wx : World) : Prop :=
  ∃ bq : Bool, v = .bool bq ∧ (bq = true → ∃ n q, u = .c n e q) ∧ (bq = false → T.addTail m e r u = .c m e r) ∧ Below wz.heap.size wz wx

def AddBox (w : World) (s : T) (m : Int) (e r d : T) (be oe ce : Nat) (wx : World) : Prop :=
  ∃ x : Int, wx.cell? ⟨w.heap.size, 0, none⟩ = some (.int .i64 x) ∧ wx.cell? ⟨w.heap.size, 1, none⟩ = some (.slice (some ⟨be, oe, none⟩) e.enc.length ce) ∧ T.add s (.c m e r) = d.app (.c x e r) ∧
    Below w.heap.size w wx ∧ w.heap.size < wx.heap.size

set_option maxHeartbeats 4000000 in
theorem addedTerms_any (g1 n1 c1 g2 n2 c2 : Nat) (s t : T) (cs ds : List Value) (w : World) (h1 : Tz w g1 n1 c1 s cs) (h2 : Tz w g2 n2 c2 t ds) (hl1 : s.enc.length ≤ 1000) (hl2 : t.enc.length ≤ 1000)
    (htm : ∀ x ∈ s.times, -1000000 ≤ x ∧ x ≤ 1000000) (htm2 : ∀ x ∈ t.times, -1000000 ≤ x ∧ x ≤ 1000000) :
    Calls Try.prog 53 #[.slice (some ⟨g1, 0, none⟩) n1 c1, .slice (some ⟨g2, 0, none⟩) n2 c2] w (TmPost w (T.add s t)) := by
  have H1 := Lib.hid h1
  have H2 := Lib.hid h2
  have Htm := Lib.hid htm
  have Htm2 := Lib.hid htm2
  clear htm htm2
  have hn1 := h1.1
  have hn2 := h2.1
  have hcb1 := T.cnt_le s
  have hcb2 := T.cnt_le t
  have hel1 := T.enc_len s
  have hel2 := T.enc_len t
  have hb1 : n1 ≤ 1000 := by omega
  have hb2 : n2 ≤ 1000 := by omega
  clear hcb1 hcb2 hel1 hel2
  cases t with
  | z =>
    have hz : n2 = 0 := hn2
    subst hz
    clear h1 h2 hn1 hn2
    go_enter Try.func53, Try.ntmps53
    go_wp2_with fail
    go_ret
    exact ⟨_, n1, c1, rfl, H1.out.tm, Below.refl _ _⟩
  | c m e r =>
    obtain ⟨be, oe, ce, ds', hds, hate, hce, hcm, htr⟩ := h2.2.2.2.1
    have y0 : w.cell? ⟨g2, 0, none⟩ = some (.int .i64 m) := by rw [h2.2.2.2.2.2 0 (by simp [T.cnt] at hn2; omega), hds]; rfl
    have y1 : w.cell? ⟨g2, 1, none⟩ = some (.slice (some ⟨be, oe, none⟩) e.enc.length ce) := by rw [h2.2.2.2.2.2 1 (by simp [T.cnt] at hn2; omega), hds]; rfl
    have hp2 : 0 < n2 := by simp [T.cnt] at hn2; omega
    have hp2b : ((n2 : Int) == 0) = false := by simp; omega
    have Hate := Lib.hid hate
    have Hn1 := Lib.hid hn1
    have Hn2 := Lib.hid hn2
    have Hds := Lib.hid hds
    have hg1 : g1 < w.heap.size := h1.2.2.2.2.1
    have hg2 : g2 < w.heap.size := h2.2.2.2.2.1
    clear h1 h2 hn1 hn2 hate hds htr
    go_enter Try.func53, Try.ntmps53
    go_upto_block 0 with fail
    obtain ⟨wb, hwb⟩ : ∃ wb, wb = w.alloc (.cells #[.int .i64 m, .slice (some ⟨be, oe, none⟩) e.enc.length ce] 63) := ⟨_, rfl⟩
    rw [← hwb]
    have hBel : Below w.heap.size w wb := by rw [hwb]; exact (Below.refl _ _).alloc (Nat.le_refl _) _
    have hB1 : w.heap.size < wb.heap.size := by rw [hwb, World.size_alloc]; omega
    have hz0 : wb.cell? ⟨w.heap.size, 0, none⟩ = some (.int .i64 m) := by rw [hwb, Joins.cell_alloc_mark_at _ _ _ _ _ _ rfl]; rfl
    have hz1 : wb.cell? ⟨w.heap.size, 1, none⟩ = some (.slice (some ⟨be, oe, none⟩) e.enc.length ce) := by rw [hwb, Joins.cell_alloc_mark_at _ _ _ _ _ _ rfl]; rfl
    have hf0 : wb.frozen? ⟨w.heap.size, 0, none⟩ = false := by rw [hwb]; exact Joins.unfrozen_of_block (heap_alloc_new w _) 0
    have HBel := Lib.hid hBel
    have Hz0 := Lib.hid hz0
    have Hz1 := Lib.hid hz1
    have Hf0 := Lib.hid hf0
    clear hwb hBel hz0 hz1 hf0 y0 y1
    have hfl : ∀ (d : T) (n : Int) (f r : T), d.app (.c n f r) = s → f.enc.length ≤ 5000 := by
      intro d n f r h
      have h1 := congrArg (fun x => T.body x) h
      have h2 := congrArg List.length h1
      simp only [T.app_body, T.body_c, List.length_append, List.length_cons] at h2
      have := T.enc_len s
      omega
    have HFL := Lib.hid hfl
    have hel5 : e.enc.length ≤ 5000 := by
      have h1 := T.enc_len (T.c m e r)
      rw [T.body_c] at h1
      simp at h1
      omega
    clear hfl
    go_cut [6] (fun v6 wx => AddAt wb s e v6 wx)
    case first =>
      go_wp2_with fail
      go_loopg [6] (s.cnt) (fun gk v6 wr => AddLoop wb s e gk v6 wr)
      case atStart => exact ⟨0, .z, s, rfl, rfl, rfl, rfl, rfl, rfl, Below.refl _ _⟩
      case round =>
        obtain ⟨k, d, u, rfl, hgk, hdu, hdk, ht1, ht2, hbq⟩ := hrel
        have Hgk := Lib.hid hgk
        have HU := Lib.hid (show d.app u = s ∧ d.cnt = k ∧ T.takeGt e s = d.app (T.takeGt e u) ∧ T.dropGt e s = T.dropGt e u from ⟨hdu, hdk, ht1, ht2⟩)
        have hct : s.cnt = k + u.cnt := by rw [← hdu, T.app_cnt, hdk]
        have Hct := Lib.hid hct
        have hkn : k ≤ n1 := by have := Hn1.out; omega
        have Hbq := Lib.hid hbq
        have Hbw := Lib.hid (HBel.out.trans (hbq.mono HBel.out.size))
        clear hgk hdu hdk ht1 ht2 hct hbq
        by_cases hu : u = .z
        · have hkz : n1 ≤ k := by have h1 := Hct.out; rw [hu] at h1; simp [T.cnt] at h1; have := Hn1.out; omega
          have hkd : decide ((k : Int) < n1) = false := by simp; omega
          have hkd2 : decide (k < n1) = false := by simp; omega
          have Hu := Lib.hid hu
          have hfin : ∀ wx, Below wb.heap.size wb wx → AddAt wb s e (.int .i64 k) wx := fun wx hb => ⟨k, d, u, rfl, by have := Hct.out; omega, HU.out.1, HU.out.2.1, by rw [HU.out.2.2.1, hu, T.takeGt, T.app_z], by rw [HU.out.2.2.2, hu]; rfl, (fun n f r h => by rw [hu] at h; cases h), hb⟩
          have Hfin := Lib.hid hfin
          clear hu hfin
          go_wp2_with fail
          go_quiet (fail)
          go_wp2_with fail
          go_meet
          exact Hfin.out _ (Hbq.out.trans (Joins.below_draws _ _ _))
        · obtain ⟨n, f, q, hu2⟩ : ∃ n f q, u = .c n f q := by
            cases u with
            | z => exact absurd rfl hu
            | c n f q => exact ⟨n, f, q, rfl⟩
          have hlt : k < n1 := by have h1 := Hct.out; rw [hu2] at h1; simp [T.cnt] at h1; have := Hn1.out; omega
          have hd2 : d.app (.c n f q) = s := by rw [← hu2]; exact HU.out.1
          obtain ⟨bf, of, cf, p1, p2, p3, p4, p5⟩ := H1.out.2.2.2.1.pick hd2 HU.out.2.1
          have x2 : wr.cell? ⟨g1, k * 2 + 1, none⟩ = some (.slice (some ⟨bf, of, none⟩) f.enc.length cf) := (Hbw.out.cell (p := ⟨g1, k * 2 + 1, none⟩) hg1).trans (by rw [H1.out.2.2.2.2.2 _ (by omega), Nat.mul_comm]; exact p2)
          have z1 : wr.cell? ⟨w.heap.size, 1, none⟩ = some (.slice (some ⟨be, oe, none⟩) e.enc.length ce) := (Hbq.out.cell (p := ⟨w.heap.size, 1, none⟩) hB1).trans Hz1.out
          have hff := HFL.out d n f q hd2
          have kc := Lib.hid (compareOrds_any (f.body.length + 1) bf of cf be oe ce f.enc.length e.enc.length f e wr.drew (by omega) rfl rfl (by omega) (by omega) p4 p5 hce hcm (p3.below Hbw.out.drew (p3.lt (T.enc_ne f))) (Hate.out.below Hbw.out.drew (Hate.out.lt (T.enc_ne e))))
          have Hu2 := Lib.hid hu2
          obtain ⟨cv, hcv⟩ : ∃ cv, cv = f.cmp e := ⟨_, rfl⟩
          rw [← hcv] at kc
          have Hcv := Lib.hid hcv
          clear hu hu2 hd2 p1 p2 p3 p4 p5 hcv
          go_wp2_with fail
          go_still_tail 12, (by kernel_rfl)
          change wpList _ _ _ _ _ wr.drew
          go_wp2_with fail
          refine (kc.out).mono ?_
          rintro ee w3 ⟨rfl, hb3⟩
          have Hb3 := Lib.hid ((Hbq.out.drew).trans (hb3.mono (Hbq.out.drew).size))
          clear hb3 x2 z1
          by_cases hc1 : 0 < cv
          · have hc1' : f.cmp e = 1 := by have h1 := Hcv.out; rcases T.cmp_vals f e with h | h | h <;> omega
            have hst := T.take_step (e := e) n q hc1'
            have hfin : AddLoop wb s e (gk - 1) (.int .i64 ((k + 1 : Nat) : Int)) w3 :=
              ⟨k + 1, d.app (.c n f .z), q, rfl, by have := Hgk.out; have := Hn1.out; omega, by rw [T.app_assoc, ← HU.out.1, Hu2.out]; rfl, by rw [T.app_cnt, HU.out.2.1]; rfl,
                by rw [HU.out.2.2.1, Hu2.out, hst.1, T.app_assoc]; rfl, by rw [HU.out.2.2.2, Hu2.out, hst.2], Hb3.out⟩
            have Hfin := Lib.hid hfin
            clear hc1' hst hfin
            go_wp2_with fail
            go_roundg (gk - 1)
            case measure => have := Hgk.out; have := Hn1.out; omega
            case rel => exact Hfin.out
          · have hc1' : ¬ f.cmp e = 1 := by have h1 := Hcv.out; omega
            have hst := T.take_stop (e := e) n q hc1'
            have hfin : AddAt wb s e (.int .i64 k) w3 :=
              ⟨k, d, u, rfl, by have := Hn1.out; omega, HU.out.1, HU.out.2.1, by rw [HU.out.2.2.1, Hu2.out, hst.1, T.app_z], by rw [HU.out.2.2.2, Hu2.out, hst.2], (fun n' f' r' h => by rw [Hu2.out] at h; cases h; exact hc1'), Hb3.out⟩
            have Hfin := Lib.hid hfin
            clear hc1' hst hfin
            go_wp2_with fail
            go_meet
            exact Hfin.out
    case rest =>
      obtain ⟨k, d, u, rfl, hks, hdu, hdk, ht1, ht2, hfirst, hbz⟩ := hcut
      go_step
      obtain ⟨wz, rfl⟩ : ∃ wz : World, wz = wc := ⟨_, rfl⟩
      have HU := Lib.hid (show d.app u = s ∧ d.cnt = k ∧ T.takeGt e s = d ∧ T.dropGt e s = u from ⟨hdu, hdk, ht1, ht2⟩)
      have hct : s.cnt = k + u.cnt := by rw [← hdu, T.app_cnt, hdk]
      have Hct := Lib.hid hct
      have Hbz := Lib.hid hbz
      have Hbw := Lib.hid (HBel.out.trans (hbz.mono HBel.out.size))
      have hz1 := (hbz.cell (p := ⟨w.heap.size, 1, none⟩) hB1).trans Hz1.out
      have hz0 := (hbz.cell (p := ⟨w.heap.size, 0, none⟩) hB1).trans Hz0.out
      have hkn : k ≤ n1 := by have := Hn1.out; omega
      clear hdu hdk ht1 ht2 hct hbz hfirst
      go_upto_region 7 with fail
      go_cut [44] (fun v44 wx => AddTest wz m e r u v44 wx)
      case first =>
        by_cases hu : u = .z
        · have hkz : n1 ≤ k := by have h1 := Hct.out; rw [hu] at h1; simp [T.cnt] at h1; have := Hn1.out; omega
          have hkd : decide ((k : Int) < n1) = false := by simp; omega
          have hkd2 : decide (k < n1) = false := by simp; omega
          have hfin : ∀ wx, Below wz.heap.size wz wx → AddTest wz m e r u (.bool false) wx := fun wx hb => ⟨false, rfl, (fun h => by cases h), (fun _ => by rw [hu]; rfl), hb⟩
          have Hfin := Lib.hid hfin
          clear hu hfin
          go_wp2_with fail
          go_quiet (fail)
          go_wp2_with fail
          go_meet
          exact Hfin.out _ (Joins.below_draws _ _ _)
        · obtain ⟨n, f, q, hu2⟩ : ∃ n f q, u = .c n f q := by
            cases u with
            | z => exact absurd rfl hu
            | c n f q => exact ⟨n, f, q, rfl⟩
          have hlt : k < n1 := by have h1 := Hct.out; rw [hu2] at h1; simp [T.cnt] at h1; have := Hn1.out; omega
          have hd2 : d.app (.c n f q) = s := by rw [← hu2]; exact HU.out.1
          obtain ⟨bf, of, cf, p1, p2, p3, p4, p5⟩ := H1.out.2.2.2.1.pick hd2 HU.out.2.1
          have x2 : wz.cell? ⟨g1, k * 2 + 1, none⟩ = some (.slice (some ⟨bf, of, none⟩) f.enc.length cf) := (Hbw.out.cell (p := ⟨g1, k * 2 + 1, none⟩) hg1).trans (by rw [H1.out.2.2.2.2.2 _ (by omega), Nat.mul_comm]; exact p2)
          have hff := HFL.out d n f q hd2
          have ke := Lib.hid (slicesEqual_any (some ⟨bf, of, none⟩) (some ⟨be, oe, none⟩) f.enc.length cf e.enc.length ce f.enc e.enc wz.drew (by omega)
            ⟨rfl, p4, p5, fun _ => ⟨bf, of, rfl, p3.below Hbw.out.drew (p3.lt (T.enc_ne f))⟩⟩ ⟨rfl, hce, hcm, fun _ => ⟨be, oe, rfl, Hate.out.below Hbw.out.drew (Hate.out.lt (T.enc_ne e))⟩⟩)
          have hfin : ∀ wx, Below wz.heap.size wz wx → AddTest wz m e r u (.bool (eqB f.enc e.enc)) wx := fun wx hb => ⟨eqB f.enc e.enc, rfl,
            (fun h => ⟨n, q, by rw [hu2, T.enc_inj' (eqB_true.1 h)]⟩),
            (fun h => by
              rw [hu2, T.addTail, if_neg]
              intro h2
              have h3 := T.cmp_eq h2
              rw [h3, eqB_refl] at h
              cases h), hb⟩
          have Hfin := Lib.hid hfin
          clear hu hu2 hd2 p1 p2 p3 p4 p5 hfin
          go_wp2_with fail
          go_still_tail 12, (by kernel_rfl)
          change wpList _ _ _ _ _ wz.drew
          go_wp2_with fail
          refine (ke.out).mono ?_
          rintro ee w3 ⟨rfl, hb3⟩
          have Hb3 := Lib.hid (((Below.refl wz.heap.size wz).drew).trans hb3)
          clear hb3 x2
          go_wp2_with fail
          go_meet
          exact Hfin.out _ Hb3.out
      case rest =>
        obtain ⟨bq, rfl, hq1, hq2, hbt⟩ := hcut
        go_step
        obtain ⟨wt, rfl⟩ : ∃ wt : World, wt = wc := ⟨_, rfl⟩
        have Hq1 := Lib.hid hq1
        have Hq2 := Lib.hid hq2
        have Hbt := Lib.hid hbt
        have Hbwt := Lib.hid (Hbw.out.trans (hbt.mono Hbw.out.size))
        have hBz : w.heap.size < wz.heap.size := by have := Hbz.out.size; omega
        have yz1 := (hbt.cell (p := ⟨w.heap.size, 1, none⟩) hBz).trans hz1
        have yz0 := (hbt.cell (p := ⟨w.heap.size, 0, none⟩) hBz).trans hz0
        have yf0 : wt.frozen? ⟨w.heap.size, 0, none⟩ = false := (hbt.frozen (p := ⟨w.heap.size, 0, none⟩) hBz).trans ((Hbz.out.frozen (p := ⟨w.heap.size, 0, none⟩) hB1).trans Hf0.out)
        clear hq1 hq2 hbt hz0 hz1
        go_upto_if 44 with fail
        go_cut [] (fun wx => AddBox w s m e r d be oe ce wx)
        case first =>
          cases bq with
          | false =>
            have hfin : AddBox w s m e r d be oe ce wt := ⟨m, yz0, yz1, by rw [T.add, HU.out.2.2.1, HU.out.2.2.2, Hq2.out rfl], Hbwt.out, by have := Hbt.out.size; omega⟩
            have Hfin := Lib.hid hfin
            clear hfin
            go_wp2_with fail
            go_meet
            exact Hfin.out
          | true =>
            obtain ⟨n, q, hu2⟩ := Hq1.out rfl
            have hd2 : d.app (.c n e q) = s := by rw [← hu2]; exact HU.out.1
            obtain ⟨bf, of, cf, p1, p2, p3, p4, p5⟩ := H1.out.2.2.2.1.pick hd2 HU.out.2.1
            have hlt : k < n1 := by have h1 := Hct.out; rw [hu2] at h1; simp [T.cnt] at h1; have := Hn1.out; omega
            have x1 : wt.cell? ⟨g1, k * 2, none⟩ = some (.int .i64 n) := (Hbwt.out.cell (p := ⟨g1, k * 2, none⟩) hg1).trans (by rw [H1.out.2.2.2.2.2 _ (by omega), Nat.mul_comm]; exact p1)
            have hb1' := Htm.out n (by rw [← hd2, T.times_app]; simp [T.times])
            have hb2' := Htm2.out m (by simp [T.times])
            have hm1 := hb2'.1
            have hm2 := hb2'.2
            have hn1' := hb1'.1
            have hn2' := hb1'.2
            have q1 : IntKind.i64.wrap (m + n) = m + n := IntWalk.i64_in _ (by omega)
            have hfin : AddBox w s m e r d be oe ce (wt.drew.setCell ⟨w.heap.size, 0, none⟩ (.int .i64 (m + n))) := by
              refine ⟨m + n, ?_, ?_, ?_, Hbwt.out.drew.setCell (Nat.le_refl _) _, ?_⟩
              · exact set_same yz0 _
              · rw [World.cell?_setCell_other _ _ _ _ (by simp)]; exact yz1
              · rw [T.add, HU.out.2.2.1, HU.out.2.2.2, hu2, T.addTail, if_pos (T.cmp_refl e)]
              · have := Hbt.out.size
                have h2 : (wt.drew.setCell ⟨w.heap.size, 0, none⟩ (.int .i64 (m + n))).heap.size = wt.heap.size := by simp
                omega
            have Hfin := Lib.hid hfin
            clear hu2 hd2 p1 p2 p3 p4 p5 hfin hb1' hb2'
            go_wp2_with fail
            go_still_tail 9, (by kernel_rfl)
            change wpList _ _ _ _ _ wt.drew
            go_wp2_with fail
            go_meet
            exact Hfin.out
        case rest =>
          obtain ⟨x, hx0, hx1, hadd, hbx, hsx⟩ := hcut
          go_step
          obtain ⟨wq, rfl⟩ : ∃ wq : World, wq = wc := ⟨_, rfl⟩
          have Hadd := Lib.hid hadd
          have Hbx := Lib.hid hbx
          have hbs := hbx.size
          clear hadd hbx
          have hi1 : (0 : Int) ≤ (k : Int) := by omega
          have hi2 : (k : Int) ≤ (c1 : Int) := by have := H1.out.2.1; omega
          have hi3 : k ≤ c1 := by omega
          have hc2 : n2 ≤ c2 := H2.out.2.1
          have hi4 : (1 : Int) ≤ (n2 : Int) := by omega
          have hi5 : (n2 : Int) ≤ (c2 : Int) := by omega
          have hi6 : (1 : Int) ≤ (c2 : Int) := by omega
          have hrc : r.cnt = n2 - 1 := by have := Hn2.out; simp [T.cnt] at this; omega
          have Hrc := Lib.hid hrc
          clear hrc
          by_cases hc21 : c2 = 1
          · obtain rfl : 1 = c2 := hc21.symm
            obtain rfl : 1 = n2 := by omega
            have HBW := Lib.hid ((((Hbx.out.alloc hbs (.cells #[.int .i64 x, .slice (some ⟨be, oe, none⟩) e.enc.length ce] 63)).alloc (by simp; omega) (.cells #[.slice (some ⟨g1, 0, none⟩) k c1, .slice (some ⟨wq.heap.size, 0, none⟩) 1 1, .slice (some ⟨g2, 0, none⟩) (0) (0)] 54)).drew))
            have HBQ := Lib.hid ((((Below.refl wq.heap.size wq).alloc (Nat.le_refl _) (.cells #[.int .i64 x, .slice (some ⟨be, oe, none⟩) e.enc.length ce] 63)).alloc (by simp) (.cells #[.slice (some ⟨g1, 0, none⟩) k c1, .slice (some ⟨wq.heap.size, 0, none⟩) 1 1, .slice (some ⟨g2, 0, none⟩) (0) (0)] 54)).drew)
            have HC := Lib.hid (cat_cells wq x (.slice (some ⟨be, oe, none⟩) e.enc.length ce) (.slice (some ⟨g1, 0, none⟩) k c1) (.slice (some ⟨wq.heap.size, 0, none⟩) 1 1) (.slice (some ⟨g2, 0, none⟩) (0) (0)) 63 54 rfl)
            have HR1 := Lib.hid (Rd.below (l := cs.take (k * 2)) (n := k) (c := c1) (a := some ⟨g1, 0, none⟩) (by
              have h := H1.out
              rw [← HU.out.1] at h
              have h2 := h.rd_front
              rw [HU.out.2.1] at h2
              exact h2) HBW.out)
            have HR3 := Lib.hid (Rd.below (l := []) (n := 0) (c := 0) (a := some ⟨g2, 0, none⟩) (by
              exact ⟨rfl, (fun u hu => by cases hu), .inr ⟨g2, 0, rfl, fun j u hj => by simp at hj⟩⟩) HBW.out)
            go_wp2_with fail
            go_region_held3 (fun w' => w'.cell? ⟨w.heap.size, 0, none⟩ = some (.int .i64 x) ∧ w'.cell? ⟨w.heap.size, 1, none⟩ = some (.slice (some ⟨be, oe, none⟩) e.enc.length ce)) (first | go_keep | exact ⟨kS0, kS1⟩)
              ((first
                | (go_at_call 83; (refine (concat3_any (wq.heap.size + 1) 3 (some ⟨g1, 0, none⟩) (some ⟨wq.heap.size, 0, none⟩) (some ⟨g2, 0, none⟩) k c1 1 1 (0) (0) (cs.take (k * 2)) [.int .i64 x, .slice (some ⟨be, oe, none⟩) e.enc.length ce] ([]) _ HC.out.1 HC.out.2.1 HC.out.2.2.1 HR1.out HC.out.2.2.2 HR3.out (by omega) (by omega) (by omega)).mono ?_); rintro ee w5 ⟨a5, c5, rfl, ho5, hb5⟩; have kS0 := (hb5.cell (p := ⟨w.heap.size, 0, none⟩) (by simp; omega)).trans ((HBQ.out.cell (p := ⟨w.heap.size, 0, none⟩) hsx).trans hx0); have kS1 := (hb5.cell (p := ⟨w.heap.size, 1, none⟩) (by simp; omega)).trans ((HBQ.out.cell (p := ⟨w.heap.size, 1, none⟩) hsx).trans hx1))))
            have hfin : TmPost w (T.add s (.c m e r)) (.returned (.slice a5 (k + 1 + 0) c5)) w5 := by
              have hbt := HBW.out.trans (hb5.mono HBW.out.size)
              refine ⟨a5, _, c5, rfl, Tm.of_own ho5 ?_ ?_, hbt⟩
              · rw [Hadd.out]
                have hj := H1.out.2.2.2.1
                rw [← HU.out.1] at hj
                have hjf := hj.front
                rw [HU.out.2.1] at hjf
                have hy := H2.out.2.2.2.1
                obtain ⟨be', oe', ce', ds', hds, _, _, _, htr⟩ := hy
                rw [Nat.mul_comm k 2]
                have hone := hjf.join (u := .c x e r) (ds := .int .i64 x :: .slice (some ⟨be, oe, none⟩) e.enc.length ce :: ds') ⟨be, oe, ce, ds', rfl, Hate.out, hce, hcm, htr⟩
                have hl : cs.take (2 * k) ++ [.int .i64 x, .slice (some ⟨be, oe, none⟩) e.enc.length ce] ++ [] = cs.take (2 * k) ++ .int .i64 x :: .slice (some ⟨be, oe, none⟩) e.enc.length ce :: ds' := by
                  have h0 : ds'.length = 0 := by
                    have h1 := htr.length
                    have := Hrc.out
                    omega
                  rw [List.length_eq_zero_iff.1 h0]; simp
                rw [hl]
                exact hone.below hbt
              · rw [Hadd.out, T.app_cnt, HU.out.2.1]
                have := Hrc.out
                simp [T.cnt]
                omega
            have Hfin := Lib.hid hfin
            clear hfin ho5 hb5 kS0 kS1
            go_wp2_with fail
            go_ret
            exact Hfin.out
          · have hc2' : ¬ (c2 : Int) = 1 := by omega
            have HBW := Lib.hid ((((Hbx.out.alloc hbs (.cells #[.int .i64 x, .slice (some ⟨be, oe, none⟩) e.enc.length ce] 63)).alloc (by simp; omega) (.cells #[.slice (some ⟨g1, 0, none⟩) k c1, .slice (some ⟨wq.heap.size, 0, none⟩) 1 1, .slice (some ⟨g2, 2, none⟩) (n2 - 1) (c2 - 1)] 54)).drew))
            have HBQ := Lib.hid ((((Below.refl wq.heap.size wq).alloc (Nat.le_refl _) (.cells #[.int .i64 x, .slice (some ⟨be, oe, none⟩) e.enc.length ce] 63)).alloc (by simp) (.cells #[.slice (some ⟨g1, 0, none⟩) k c1, .slice (some ⟨wq.heap.size, 0, none⟩) 1 1, .slice (some ⟨g2, 2, none⟩) (n2 - 1) (c2 - 1)] 54)).drew)
            have HC := Lib.hid (cat_cells wq x (.slice (some ⟨be, oe, none⟩) e.enc.length ce) (.slice (some ⟨g1, 0, none⟩) k c1) (.slice (some ⟨wq.heap.size, 0, none⟩) 1 1) (.slice (some ⟨g2, 2, none⟩) (n2 - 1) (c2 - 1)) 63 54 rfl)
            have HR1 := Lib.hid (Rd.below (l := cs.take (k * 2)) (n := k) (c := c1) (a := some ⟨g1, 0, none⟩) (by
              have h := H1.out
              rw [← HU.out.1] at h
              have h2 := h.rd_front
              rw [HU.out.2.1] at h2
              exact h2) HBW.out)
            have HR3 := Lib.hid (Rd.below (l := ds.drop 2) (n := n2 - 1) (c := c2 - 1) (a := some ⟨g2, 2, none⟩) (by
              have h := H2.out.rd_tail; rw [if_neg hc21, Hrc.out] at h; exact h) HBW.out)
            go_wp2_with fail
            go_region_held3 (fun w' => w'.cell? ⟨w.heap.size, 0, none⟩ = some (.int .i64 x) ∧ w'.cell? ⟨w.heap.size, 1, none⟩ = some (.slice (some ⟨be, oe, none⟩) e.enc.length ce)) (first | go_keep | exact ⟨kS0, kS1⟩)
              ((first
                | (go_at_call 83; (refine (concat3_any (wq.heap.size + 1) 3 (some ⟨g1, 0, none⟩) (some ⟨wq.heap.size, 0, none⟩) (some ⟨g2, 2, none⟩) k c1 1 1 (n2 - 1) (c2 - 1) (cs.take (k * 2)) [.int .i64 x, .slice (some ⟨be, oe, none⟩) e.enc.length ce] (ds.drop 2) _ HC.out.1 HC.out.2.1 HC.out.2.2.1 HR1.out HC.out.2.2.2 HR3.out (by omega) (by omega) (by omega)).mono ?_); rintro ee w5 ⟨a5, c5, rfl, ho5, hb5⟩; have kS0 := (hb5.cell (p := ⟨w.heap.size, 0, none⟩) (by simp; omega)).trans ((HBQ.out.cell (p := ⟨w.heap.size, 0, none⟩) hsx).trans hx0); have kS1 := (hb5.cell (p := ⟨w.heap.size, 1, none⟩) (by simp; omega)).trans ((HBQ.out.cell (p := ⟨w.heap.size, 1, none⟩) hsx).trans hx1))))
            have hfin : TmPost w (T.add s (.c m e r)) (.returned (.slice a5 (k + 1 + (n2 - 1)) c5)) w5 := by
              have hbt := HBW.out.trans (hb5.mono HBW.out.size)
              refine ⟨a5, _, c5, rfl, Tm.of_own ho5 ?_ ?_, hbt⟩
              · rw [Hadd.out]
                have hj := H1.out.2.2.2.1
                rw [← HU.out.1] at hj
                have hjf := hj.front
                rw [HU.out.2.1] at hjf
                have hy := H2.out.2.2.2.1
                obtain ⟨be', oe', ce', ds', hds, _, _, _, htr⟩ := hy
                rw [Nat.mul_comm k 2]
                have hone := hjf.join (u := .c x e r) (ds := .int .i64 x :: .slice (some ⟨be, oe, none⟩) e.enc.length ce :: ds') ⟨be, oe, ce, ds', rfl, Hate.out, hce, hcm, htr⟩
                have hl : cs.take (2 * k) ++ [.int .i64 x, .slice (some ⟨be, oe, none⟩) e.enc.length ce] ++ ds.drop 2 = cs.take (2 * k) ++ .int .i64 x :: .slice (some ⟨be, oe, none⟩) e.enc.length ce :: ds' := by
                  rw [hds]; simp
                rw [hl]
                exact hone.below hbt
              · rw [Hadd.out, T.app_cnt, HU.out.2.1]
                have := Hrc.out
                simp [T.cnt]
                omega
            have Hfin := Lib.hid hfin
            clear hfin ho5 hb5 kS0 kS1
            go_wp2_with fail
            go_ret
            exact Hfin.out

end Go.Proofs.Ythalogciiochfaa
