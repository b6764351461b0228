/- OrdStep of the model. -/
import Derived.Test.YthalogciiochfaaStepI
import Derived.Deep.CutBlock
import Derived.Deep.DeepCutAuto
namespace Go.Proofs.Ythalogciiochfaa
set_option maxRecDepth 100000
open Go.RowKit

def RowPost (w : World) (t : T) (e : Ending) (w' : World) : Prop :=
  ∃ a c, e = .returned (.slice a t.enc.length c) ∧ w'.ownsRow w.heap.size 3 1 (.slice a t.enc.length c) t.enc.length (ints t.enc) ∧ Below w.heap.size w w'

/-- The front of a row, read once more behind a new block. -/
theorem own_front {w : World} {B e n g c : Nat} {xs : List Value} (h : w.ownsRow B e 1 (.slice (some ⟨g, 0, none⟩) n c) n xs) (o : Obj) (k : Nat) :
    ∀ j u, (xs.take k)[j]? = some u → (w.alloc o).cell? ((⟨g, 0, none⟩ : Addr).add j) = some u := by
  intro j u hj
  rw [List.getElem?_take] at hj
  split at hj
  · have hl : j < xs.length := (List.getElem?_eq_some_iff.1 hj).1
    rw [Addr.add_lit, World.cell?_alloc_past _ _ _ (h.lt g rfl).2, Nat.zero_add, h.cellAt j (by rw [h.1] at hl; exact hl)]
    exact hj
  · cases hj

theorem ec_one' {w : World} {t : T} {es : List Value} (h : EC w t es) : ∀ u ∈ es, u.oneCell' = true := by
  induction t generalizing es with
  | z => simp only [EC] at h; subst h; intro u hu; cases hu
  | c n e r _ ih =>
    obtain ⟨b, off, cap, es', rfl, _, _, _, h⟩ := h
    intro u hu
    rcases List.mem_cons.1 hu with rfl | hu
    · rfl
    · exact ih h u hu

/-- The head of the terms that are left. -/
def HeadRel (w1 : World) (s : T) (v8 v9 : Value) (wx : World) : Prop :=
  ∃ a8 c8 a9 c9 es, v8 = .slice a8 s.cnt c8 ∧ v9 = .slice a9 s.cnt c9 ∧ wx.ownsRow w1.heap.size 3 1 (.slice a8 s.cnt c8) s.cnt (ints s.times) ∧
    wx.ownsRow w1.heap.size 23 1 (.slice a9 s.cnt c9) s.cnt es ∧ EC w1 s es ∧ Below w1.heap.size w1 wx

theorem T.kind_last {d f t : T} {m : Int} (h : t = d.app (.c m f .z)) : t.kind = if f.cnt = 0 then 1 else 2 := by rw [h, T.kind_app]

set_option maxRecDepth 100000 in
set_option maxHeartbeats 4000000 in
theorem l3Step_any (k : Int) (hk0 : 0 ≤ k) (N : Nat) : ∀ (b off n cap : Nat) (t : T) (w : World), t.body.length < N → n = t.enc.length → n ≤ 60 → n ≤ cap → cap ≤ maxLen → At w b off t.enc → t.Nf →
    Calls Try.prog 76 #[.slice (some ⟨b, off, none⟩) n cap, .int .i64 k] w (RowPost w (t.step k)) := by
  induction N with
  | zero => intro b off n cap t w h; omega
  | succ N ih =>
    intro b off n cap t w hN hn hb hc hm hat hnf
    obtain ⟨i0, hi, hz0, hz1, hz2⟩ := info_parts info_int
    obtain ⟨j0, hj, hy0, hy1, hy2⟩ := info_parts info_ints
    have IH := Lib.hid ih
    have HA := Lib.hid hat
    have Hn := Lib.hid hn
    have HN := Lib.hid hN
    have HF := Lib.hid hnf
    have kt := Lib.hid (l1Terms_some b off n cap t.enc t w hn.symm (by omega) hc hm hat rfl)
    clear ih hN hn hat hnf
    by_cases htz : t.cnt = 0
    · have Hz := Lib.hid (T.cnt_zero htz)
      rw [htz] at kt
      clear htz
      go_enter Try.func76, Try.ntmps76
      go_wp2_with fail
      refine (kt.out).mono ?_
      rintro ee w1 ⟨g1, k1, g2, k2, es, rfl, ho1, ho2, hE, hb1⟩
      have Hb1 := Lib.hid hb1
      clear ho1 ho2 hE hb1
      go_wp2_with fail
      go_ret
      refine ⟨some ⟨w1.heap.size, 0, none⟩, 1, by rw [Hz.out]; rfl, ?_, Hb1.out.alloc Hb1.out.size _⟩
      rw [Hz.out]
      exact World.ownsRow_lit w1 _ 1 Hb1.out.size (by simp [maxLen]) rfl
    · obtain ⟨d, m, e, hd1, hd2⟩ := T.last_of t (by omega)
      have hst : t.step k = t.less.app (T.tail k e) := by rw [hd1, T.step_app]
      have hls : t.less = if m = 1 then d else d.app (.c (m - 1) e .z) := by rw [hd1, T.less_app]
      obtain ⟨q1, q2, q3⟩ := T.part_nf hd1.symm HF.out
      have hpl := T.part_len hd1.symm
      have hel : e.enc.length ≤ 60 := by have := Hn.out; have := T.enc_len t; omega
      have heN : e.body.length < N := by have := HN.out; omega
      obtain ⟨E, hE⟩ : ∃ E, E = e.step k := ⟨_, rfl⟩
      have HE := Lib.hid hE.symm
      have HEL := Lib.hid (hE ▸ (T.step_small k hel).2.1 : E.enc.length ≤ 1000000000000)
      have HSL := Lib.hid (T.step_small k (show t.enc.length ≤ 60 by have := Hn.out; omega)).2.1
      have HLL := Lib.hid (show t.less.enc.length ≤ 1000000000000 by have := T.less_len t; have := T.enc_len t; have := T.enc_len t.less; have := Hn.out; omega)
      have hlc : t.less.cnt ≤ 60 := by have := T.less_len t; have := T.enc_len t; have := T.cnt_le t.less; have := Hn.out; omega
      have HST := Lib.hid hst
      have HLS := Lib.hid hls
      have Hd1 := Lib.hid hd1
      have HEF := Lib.hid q3
      obtain ⟨cn, hcn⟩ : ∃ cn, cn = t.cnt := ⟨_, rfl⟩
      rw [← hcn] at kt hd2 htz
      have hcl : cn ≤ 60 := by rw [hcn]; have := T.cnt_le t; have := T.enc_len t; have := Hn.out; omega
      have hdc : cn - 1 = d.cnt := by omega
      have HDC := Lib.hid hdc
      have hge : 1 ≤ cn := by omega
      have Hcn := Lib.hid hcn
      have HLC := Lib.hid hlc
      clear hst hls hd1 hpl hE q3 hcn hdc hd2 htz hlc
      go_enter Try.func76, Try.ntmps76
      go_wp2_with fail
      refine (kt.out).mono ?_
      rintro ee w1 ⟨g1, k1, g2, k2, es, rfl, ho1, ho2, hE, hb1⟩
      have hEt := hE.below hb1
      rw [Hd1.out] at hEt
      obtain ⟨be, oe, ce, p2, p3, p4, p5⟩ := hEt.pick (d := d) (k := d.cnt) rfl rfl
      have hl1 : g1 < w1.heap.size := (ho1.lt g1 rfl).2
      have hl2 : g2 < w1.heap.size := (ho2.lt g2 rfl).2
      have x1 : w1.cell? ⟨g1, cn - 1, none⟩ = some (.int .i64 m) := by rw [ho1.cellAt _ (by omega), HDC.out, List.getElem?_map, T.times_pick Hd1.out.symm rfl]; rfl
      have x2 : w1.cell? ⟨g2, cn - 1, none⟩ = some (.slice (some ⟨be, oe, none⟩) e.enc.length ce) := by rw [ho2.cellAt _ (by omega), HDC.out]; exact p2
      have hft : (t.times.map (Value.int .i64)).take (cn - 1) = ints d.times := by
        rw [HDC.out]
        have h := T.times_front d (.c m e .z)
        rw [← Hd1.out] at h
        rw [← List.map_take, h]; rfl
      have hn1 := own_front ho1 (.cells #[] 3) (cn - 1)
      rw [hft] at hn1
      have hc1 : cn ≤ k1 ∧ k1 ≤ maxLen := by
        rcases ho1.2 with ⟨h1, _⟩ | ⟨_, _, _, h1, _, _, h3, h4, _⟩
        · cases h1
        · cases h1; exact ⟨h3, h4⟩
      have hc2 : cn ≤ k2 ∧ k2 ≤ maxLen := by
        rcases ho2.2 with ⟨h1, _⟩ | ⟨_, _, _, h1, _, _, h3, h4, _⟩
        · cases h1
        · cases h1; exact ⟨h3, h4⟩
      have hc1a := hc1.1
      have hc2a := hc2.1
      have hec : EC w1 d (es.take (cn - 1)) := by rw [HDC.out]; exact hEt.front
      have hel2 : (es.take (cn - 1)).length = cn - 1 := by rw [hec.length, HDC.out]
      have he1 : ∀ u ∈ es.take (cn - 1), u.oneCell' = true := ec_one' hec
      have HAe := Lib.hid p3
      have Hb01 := Lib.hid hb1
      have Hn1 := Lib.hid hn1
      have Ho2 := Lib.hid ho2
      have HEd := Lib.hid hec
      have Hel2 := Lib.hid hel2
      have He1 := Lib.hid he1
      have Hdl := Lib.hid (show (ints d.times).length = cn - 1 by rw [ints_len, T.times_len, HDC.out])
      clear ho1 ho2 hE hb1 hEt p2 p3 hft hn1 hc1 hc2 hec hel2 he1
      have hlt0 : ¬ ((cn : Int) - 1 < 0) := by omega
      go_upto_if 38 with (first
        | (at_builtin; refine wpList_append_own _ rfl (.tmp 24) (.tmp 27) 23 rfl w1.heap.size 3 i0 (.int .i64 0) 1 8 Try.underlying23 hi hz0 hz1 hz2 rfl (by decide) _ 0 [] rfl (World.ownsRow_lit w1 #[] 0 (Nat.le_refl _) (by simp [maxLen]) rfl) ⟨g1, 0, none⟩ (cn - 1) k1 (ints d.times) rfl (by rw [Hdl.out, Nat.mul_one]) Hn1.out (ints_one _) (by unfold maxLen; omega) (by omega) (by simp) ?_; intro v8 w2 ho8 hg8 _; have hb2 : Below w1.heap.size w1 w2 := ((Below.refl _ _).alloc (Nat.le_refl _) _).grown hg8 (by simp) (fun k hk => by cases hk; exact Nat.le_refl _); have hs2 := hb2.size; have Hn2 := Lib.hid (own_front (ownsRow_below' Ho2.out hb2) (.cells #[] 23) (cn - 1)))
        | (at_builtin; refine wpList_append_own _ rfl (.tmp 29) (.tmp 32) 71 rfl w1.heap.size 23 j0 (.slice none 0 0) 1 24 Try.underlying71 hj hy0 hy1 hy2 rfl (by decide) _ 0 [] rfl (World.ownsRow_lit w2 #[] 0 hs2 (by simp [maxLen]) rfl) ⟨g2, 0, none⟩ (cn - 1) k2 (es.take (cn - 1)) rfl (by rw [Hel2.out, Nat.mul_one]) Hn2.out He1.out (by unfold maxLen; omega) (by omega) (by simp; omega) ?_; intro v9 w3 ho9 hg9 _; have hb3 : Below w1.heap.size w1 w3 := (hb2.alloc hs2 _).grown hg9 (by simp; omega) (fun k hk => by cases hk; exact hs2); have x1' := (hb3.cell (p := ⟨g1, cn - 1, none⟩) hl1).trans x1; have x2' := (hb3.cell (p := ⟨g2, cn - 1, none⟩) hl2).trans x2))
      have hg9' : (w2.alloc (.cells #[] 23)).grownBy w3 (some w2.heap.size) := hg9
      have ho8c := (ho8.alloc (.cells #[] 23)).kept hg9' (.inr (fun he => by have h := (ho8.lt _ he).2; exact absurd h (Nat.lt_irrefl _)))
      rw [Nat.zero_add, List.nil_append] at ho8c ho9
      obtain ⟨a8, c8, rfl, _⟩ := own_form ho8c
      obtain ⟨a9, c9, rfl, _⟩ := own_form ho9
      have Hb3 := Lib.hid hb3
      have hs3 : w1.heap.size ≤ w3.heap.size := hb3.size
      have Ho8 := Lib.hid ho8c
      have Ho9 := Lib.hid ho9
      clear hb2 hs2 Hn2 ho8 hg8 ho9 hg9 hg9' ho8c hb3
      go_cut [8, 9] (fun v8 v9 wx => HeadRel w1 t.less v8 v9 wx)
      case first =>
        by_cases hm1 : m = 1
        · have hd2 : ¬ ((1 : Int) < m) := by omega
          have hl : t.less = d := by rw [HLS.out, if_pos hm1]
          have hfin : HeadRel w1 t.less (.slice a8 (cn - 1) c8) (.slice a9 (cn - 1) c9) w3 := by
            rw [hl]
            have h8 := Ho8.out
            have h9 := Ho9.out
            have hE' := HEd.out
            rw [HDC.out] at h8 h9 hE' ⊢
            exact ⟨a8, c8, a9, c9, _, rfl, rfl, h8, h9, hE', Hb3.out⟩
          have Hfin := Lib.hid hfin
          clear hm1 hl hfin
          go_wp2_with fail
          go_meet
          exact Hfin.out
        · have hl : t.less = d.app (.c (m - 1) e .z) := by rw [HLS.out, if_neg hm1]
          have Hl := Lib.hid hl
          have hd2 : (1 : Int) < m := by omega
          clear hm1 hl
          go_wp2_with (first
            | (at_builtin; refine wpList_append_own _ rfl (.tmp 39) (.tmp 45) 23 rfl w1.heap.size 3 i0 (.int .i64 0) 1 8 Try.underlying23 hi hz0 hz1 hz2 rfl (by decide) _ (cn - 1) (ints d.times) rfl (Ho8.out.alloc _) ⟨w3.heap.size, 0, none⟩ 1 1 [.int .i64 (m - 1)] rfl rfl (cell_one_new _ _ _) (ints_oneCell _ [m - 1]) (by unfold maxLen; omega) (by omega) (by simp; omega) ?_; intro v8 w4 ho8' hg8 _; have hb4 : Below w1.heap.size w1 w4 := (Hb3.out.alloc hs3 _).grown hg8 (by simp; omega) (fun k hk => (Ho8.out.lt k hk).1); have hs4 := hb4.size; have x2q := (hb4.cell (p := ⟨g2, cn - 1, none⟩) hl2).trans x2; have Ho9b := Lib.hid (kept_of Ho9.out hg8 (own_ne Ho9.out Ho8.out (by decide))))
            | (at_builtin; refine wpList_append_own _ rfl (.tmp 47) (.tmp 52) 71 rfl w1.heap.size 23 j0 (.slice none 0 0) 1 24 Try.underlying71 hj hy0 hy1 hy2 rfl (by decide) _ (cn - 1) (es.take (cn - 1)) rfl (Ho9b.out.alloc _) ⟨w4.heap.size, 0, none⟩ 1 1 [.slice (some ⟨be, oe, none⟩) e.enc.length ce] rfl rfl (cell_one_new _ _ _) (slice_oneCell _ _ _) (by unfold maxLen; omega) (by omega) (by simp; omega) ?_; intro v9 w5 ho9' hg9 _))
          have hb5 : Below w1.heap.size w1 w5 := (hb4.alloc hs4 _).grown hg9 (by simp; omega) (fun k hk => (Ho9b.out.lt k hk).1)
          have ho8c := kept_of ho8' hg9 (own_ne ho8' Ho9b.out (by decide))
          have hfin : HeadRel w1 t.less v8 v9 w5 := by
            rw [Hl.out]
            have hE' := HEd.out.snoc (n := m - 1) HAe.out p4 p5
            rw [HDC.out] at ho8c ho9' hE'
            have h6 : ints (d.app (.c (m - 1) e .z)).times = ints d.times ++ [.int .i64 (m - 1)] := by rw [T.times_app]; simp [ints, T.times]
            have hcc : (d.app (.c (m - 1) e .z)).cnt = d.cnt + 1 := by rw [T.app_cnt]; rfl
            obtain ⟨a8', c8', rfl, _⟩ := own_form ho8c
            obtain ⟨a9', c9', rfl, _⟩ := own_form ho9'
            refine ⟨a8', c8', a9', c9', _, ?_, ?_, ?_, ?_, hE', hb5⟩
            · rw [hcc]
            · rw [hcc]
            · rw [hcc, h6]; exact ho8c
            · rw [hcc]; exact ho9'
          have Hfin := Lib.hid hfin
          clear ho8' hg8 hb4 hs4 x2q ho9' hg9 hb5 ho8c hfin
          go_wp2_with fail
          go_meet
          exact Hfin.out
      case rest =>
        obtain ⟨a8, c8, a9, c9, esl, rfl, rfl, ho8, ho9, hEl, hbW⟩ := hcut
        go_step
        obtain ⟨WW, rfl⟩ : ∃ wt : World, wt = wc := ⟨_, rfl⟩
        obtain ⟨ln, hln⟩ : ∃ ln, ln = t.less.cnt := ⟨_, rfl⟩
        rw [← hln] at ho8 ho9 ⊢
        have hlb : ln ≤ 60 := by rw [hln]; exact HLC.out
        have xW := (hbW.cell (p := ⟨g2, cn - 1, none⟩) hl2).trans x2
        have Hln := Lib.hid hln
        have HoW8 := Lib.hid ho8
        have HoW9 := Lib.hid ho9
        have HEl := Lib.hid hEl
        have HbW := Lib.hid hbW
        clear hln ho8 ho9 hEl hbW
        by_cases hez : e.cnt = 0
        · have hze1 : (((e.enc.length : Nat) : Int) == 1) = true := by rw [T.cnt_zero hez]; rfl
          have HK := Lib.hid (show e.kind = 0 by rw [T.cnt_zero hez]; rfl)
          clear hez
          have hstep : t.step k = t.less := by rw [HST.out, T.tail, if_pos HK.out, T.app_z]
          have kmk := Lib.hid (l1Make_any a8 a9 ln c8 c9 t.less WW HLL.out (Ex.of_own HoW9.out (HEl.out.below HbW.out) Hln.out) (Sl.of_own HoW8.out))
          rw [← hstep] at kmk
          have hb0 := Hb01.out.trans (HbW.out.mono Hb01.out.size)
          have Hb0 := Lib.hid hb0
          clear hstep hb0
          go_wp2_with fail
          refine (kmk.out).mono ?_
          rintro ee wr ⟨ar, cr, rfl, hor, hbr⟩
          have hfin : RowPost w (t.step k) (.returned (.slice ar (t.step k).enc.length cr)) wr := ⟨ar, cr, rfl, Joins.ownsRow_le (base' := w.heap.size) hor Hb0.out.size, Hb0.out.trans (hbr.mono Hb0.out.size)⟩
          have Hfin := Lib.hid hfin
          clear hor hbr hfin
          go_wp2_with fail
          go_ret
          exact Hfin.out
        · have hze1 : (((e.enc.length : Nat) : Int) == 1) = false := by
            have h1 := T.enc_len e
            have h2 := T.cnt_le e
            simp; omega
          have kte := Lib.hid (l1Terms_some be oe e.enc.length ce e.enc e WW rfl (by omega) p4 p5 (HAe.out.below HbW.out (HAe.out.lt (T.enc_ne e))) rfl)
          obtain ⟨d', m', f, hf1, hf2⟩ := T.last_of e (by omega)
          have hkl := T.kind_last hf1
          obtain ⟨ecn, hecn⟩ : ∃ ecn, ecn = e.cnt := ⟨_, rfl⟩
          rw [← hecn] at kte hf2 hez
          have hecl : ecn ≤ 60 := by rw [hecn]; have := T.cnt_le e; have := T.enc_len e; omega
          have hege : 1 ≤ ecn := by omega
          have Hkl := Lib.hid hkl
          have Hf1 := Lib.hid hf1
          have Hf2 := Lib.hid hf2
          clear hez hf1 hf2 hkl hecn
          go_wp2_with fail
          refine (kte.out).mono ?_
          rintro ee w4 ⟨gg1, kk1, gg2, kk2, ess, rfl, hoe1, hoe2, hEe, hb4⟩
          rw [Hf1.out] at hEe
          obtain ⟨bf, of, cf, r2, r3, r4, r5⟩ := hEe.pick (d := d') (k := d'.cnt) rfl rfl
          have y2 : w4.cell? ⟨gg2, ecn - 1, none⟩ = some (.slice (some ⟨bf, of, none⟩) f.enc.length cf) := by rw [hoe2.cellAt _ (by omega), show ecn - 1 = d'.cnt by have := Hf2.out; omega]; exact r2
          have Ho48 := Lib.hid (ownsRow_below' HoW8.out hb4)
          have Ho49 := Lib.hid (ownsRow_below' HoW9.out hb4)
          have Hb4 := Lib.hid (HbW.out.trans (hb4.mono HbW.out.size))
          clear hoe1 hoe2 hEe hb4 r2 r3 r4 r5
          by_cases hfz : f.cnt = 0
          · have hzf2 : (((f.enc.length : Nat) : Int) == 1) = true := by rw [T.cnt_zero hfz]; rfl
            have HK := Lib.hid (show e.kind = 1 by rw [Hkl.out, if_pos hfz])
            clear hfz
            by_cases hkz : k = 0
            · have hkb : ¬ ((0 : Int) < k) := by omega
              have HKZ := Lib.hid hkz
              clear hkz
              have hstep : t.step k = t.less := by rw [HST.out, T.tail, if_neg (by rw [HK.out]; decide), if_pos HK.out, if_pos HKZ.out, T.app_z]
              have kmk := Lib.hid (l1Make_any a8 a9 ln c8 c9 t.less w4 HLL.out (Ex.of_own Ho49.out (HEl.out.below Hb4.out) Hln.out) (Sl.of_own Ho48.out))
              rw [← hstep] at kmk
              have hb0 := Hb01.out.trans (Hb4.out.mono Hb01.out.size)
              have Hb0 := Lib.hid hb0
              clear hstep hb0
              go_wp2_with fail
              refine (kmk.out).mono ?_
              rintro ee wr ⟨ar, cr, rfl, hor, hbr⟩
              have hfin : RowPost w (t.step k) (.returned (.slice ar (t.step k).enc.length cr)) wr := ⟨ar, cr, rfl, Joins.ownsRow_le (base' := w.heap.size) hor Hb0.out.size, Hb0.out.trans (hbr.mono Hb0.out.size)⟩
              have Hfin := Lib.hid hfin
              clear hor hbr hfin
              go_wp2_with fail
              go_ret
              exact Hfin.out
            · have hkb : (0 : Int) < k := by omega
              have HKZ := Lib.hid hkz
              clear hkz
              have hstep : t.step k = t.less.app (.c k E .z) := by rw [HST.out, T.tail, if_neg (by rw [HK.out]; decide), if_pos HK.out, if_neg HKZ.out, HE.out]
              have Hst2 := Lib.hid hstep
              have hsW : w1.heap.size ≤ w4.heap.size := Hb4.out.size
              clear hstep
              go_wp2_with (first
                | (at_builtin; refine wpList_append_own _ rfl (.tmp 79) (.tmp 81) 23 rfl w1.heap.size 3 i0 (.int .i64 0) 1 8 Try.underlying23 hi hz0 hz1 hz2 rfl (by decide) _ ln (ints t.less.times) rfl (Ho48.out.alloc _) ⟨w4.heap.size, 0, none⟩ 1 1 [.int .i64 k] rfl rfl (cell_one_new _ _ _) (ints_oneCell _ [k]) (by unfold maxLen; omega) (by omega) (by simp; omega) ?_; intro v5' w5 ho5 hg5 _))
              have hb5 : Below w1.heap.size w1 w5 := (Hb4.out.alloc hsW _).grown hg5 (by simp; omega) (fun k hk => (Ho48.out.lt k hk).1)
              have Ho9b := Lib.hid (kept_of Ho49.out hg5 (own_ne Ho49.out Ho48.out (by decide)))
              have Ho5 := Lib.hid ho5
              have k5 := Lib.hid (IH.out be oe e.enc.length ce e w5 heN rfl hel p4 p5 (HAe.out.below hb5 (HAe.out.lt (T.enc_ne e))) HEF.out)
              unfold RowPost at k5
              rw [HE.out] at k5
              have Hb5 := Lib.hid hb5
              clear ho5 hg5 hb5
              go_wp2_with fail
              refine (k5.out).mono ?_
              rintro ee w6 ⟨a6, c6, rfl, ho6, hb6⟩
              obtain ⟨g6, rfl, hg6, hat6, hc6, hm6⟩ := own_rowT ho6
              have hb06 := Hb5.out.trans (hb6.mono Hb5.out.size)
              have Ho5b := Lib.hid (ownsRow_below' Ho5.out hb6)
              have Ho9c := Lib.hid (ownsRow_below' Ho9b.out hb6)
              have Ho6 := Lib.hid ho6
              have Hb06 := Lib.hid hb06
              have hs06 : w1.heap.size ≤ w6.heap.size := hb06.size
              clear ho6 hb6 hb06 hat6 hg6
              go_wp2_with (first
                | (at_builtin; refine wpList_append_own _ rfl (.tmp 83) (.tmp 87) 71 rfl w1.heap.size 23 j0 (.slice none 0 0) 1 24 Try.underlying71 hj hy0 hy1 hy2 rfl (by decide) _ ln esl rfl (Ho9c.out.alloc _) ⟨w6.heap.size, 0, none⟩ 1 1 [.slice (some ⟨g6, 0, none⟩) E.enc.length c6] rfl rfl (cell_one_new _ _ _) (slice_oneCell _ _ _) (by unfold maxLen; omega) (by omega) (by simp; omega) ?_; intro v7' w7 ho7 hg7 _; have hb7 : Below w1.heap.size w1 w7 := (Hb06.out.alloc hs06 _).grown hg7 (by simp; omega) (fun k hk => (Ho9c.out.lt k hk).1); have hz7 := kept_of Ho6.out hg7 (own_ne Ho6.out Ho9c.out (by decide)); have ho5c := kept_of Ho5b.out hg7 (own_ne Ho5b.out Ho9c.out (by decide)); obtain ⟨g7', hq7, _, hat7, _, _⟩ := own_rowT hz7; simp only [Option.some.injEq, Addr.mk.injEq, and_true] at hq7; subst hq7; obtain ⟨a5, c5, rfl, _⟩ := own_form ho5c; obtain ⟨a7, c7, rfl, _⟩ := own_form ho7; have kmk := Lib.hid (l1Make_any a5 a7 (ln + 1) c5 c7 (t.step k) w7 HSL.out (Ex.of_own ho7 (by rw [Hst2.out]; exact (HEl.out.below hb7).snoc hat7 hc6 hm6) (by rw [Hst2.out, T.app_cnt, Hln.out]; rfl)) (Sl.of_own (by have h := ho5c; rw [Hst2.out, T.times_app]; simpa [ints, T.times] using h)))))
              have hb07 := Hb01.out.trans (hb7.mono Hb01.out.size)
              have Hb07 := Lib.hid hb07
              clear hb7 hz7 ho5c hat7 ho7 hg7 hb07
              go_wp2_with fail
              refine (kmk.out).mono ?_
              rintro ee wr ⟨ar, cr, rfl, hor, hbr⟩
              have hfin : RowPost w (t.step k) (.returned (.slice ar (t.step k).enc.length cr)) wr := ⟨ar, cr, rfl, Joins.ownsRow_le (base' := w.heap.size) hor Hb07.out.size, Hb07.out.trans (hbr.mono Hb07.out.size)⟩
              have Hfin := Lib.hid hfin
              clear hor hbr hfin
              go_wp2_with fail
              go_ret
              exact Hfin.out
          · have hzf2 : (((f.enc.length : Nat) : Int) == 1) = false := by
              have h1 := T.enc_len f
              have h2 := T.cnt_le f
              simp; omega
            have HK := Lib.hid (show e.kind = 2 by rw [Hkl.out, if_neg hfz])
            clear hfz
            have hstep : t.step k = t.less.app (.c 1 E .z) := by rw [HST.out, T.tail, if_neg (by rw [HK.out]; decide), if_neg (by rw [HK.out]; decide), HE.out]
            have Hst2 := Lib.hid hstep
            have hsW : w1.heap.size ≤ w4.heap.size := Hb4.out.size
            clear hstep
            go_wp2_with (first
              | (at_builtin; refine wpList_append_own _ rfl (.tmp 92) (.tmp 93) 23 rfl w1.heap.size 3 i0 (.int .i64 0) 1 8 Try.underlying23 hi hz0 hz1 hz2 rfl (by decide) _ ln (ints t.less.times) rfl (Ho48.out.alloc _) ⟨w4.heap.size, 0, none⟩ 1 1 [.int .i64 1] rfl rfl (cell_one_new _ _ _) (ints_oneCell _ [1]) (by unfold maxLen; omega) (by omega) (by simp; omega) ?_; intro v5' w5 ho5 hg5 _))
            have hb5 : Below w1.heap.size w1 w5 := (Hb4.out.alloc hsW _).grown hg5 (by simp; omega) (fun k hk => (Ho48.out.lt k hk).1)
            have Ho9b := Lib.hid (kept_of Ho49.out hg5 (own_ne Ho49.out Ho48.out (by decide)))
            have Ho5 := Lib.hid ho5
            have k5 := Lib.hid (IH.out be oe e.enc.length ce e w5 heN rfl hel p4 p5 (HAe.out.below hb5 (HAe.out.lt (T.enc_ne e))) HEF.out)
            unfold RowPost at k5
            rw [HE.out] at k5
            have Hb5 := Lib.hid hb5
            clear ho5 hg5 hb5
            go_wp2_with fail
            refine (k5.out).mono ?_
            rintro ee w6 ⟨a6, c6, rfl, ho6, hb6⟩
            obtain ⟨g6, rfl, hg6, hat6, hc6, hm6⟩ := own_rowT ho6
            have hb06 := Hb5.out.trans (hb6.mono Hb5.out.size)
            have Ho5b := Lib.hid (ownsRow_below' Ho5.out hb6)
            have Ho9c := Lib.hid (ownsRow_below' Ho9b.out hb6)
            have Ho6 := Lib.hid ho6
            have Hb06 := Lib.hid hb06
            have hs06 : w1.heap.size ≤ w6.heap.size := hb06.size
            clear ho6 hb6 hb06 hat6 hg6
            go_wp2_with (first
              | (at_builtin; refine wpList_append_own _ rfl (.tmp 95) (.tmp 99) 71 rfl w1.heap.size 23 j0 (.slice none 0 0) 1 24 Try.underlying71 hj hy0 hy1 hy2 rfl (by decide) _ ln esl rfl (Ho9c.out.alloc _) ⟨w6.heap.size, 0, none⟩ 1 1 [.slice (some ⟨g6, 0, none⟩) E.enc.length c6] rfl rfl (cell_one_new _ _ _) (slice_oneCell _ _ _) (by unfold maxLen; omega) (by omega) (by simp; omega) ?_; intro v7' w7 ho7 hg7 _; have hb7 : Below w1.heap.size w1 w7 := (Hb06.out.alloc hs06 _).grown hg7 (by simp; omega) (fun k hk => (Ho9c.out.lt k hk).1); have hz7 := kept_of Ho6.out hg7 (own_ne Ho6.out Ho9c.out (by decide)); have ho5c := kept_of Ho5b.out hg7 (own_ne Ho5b.out Ho9c.out (by decide)); obtain ⟨g7', hq7, _, hat7, _, _⟩ := own_rowT hz7; simp only [Option.some.injEq, Addr.mk.injEq, and_true] at hq7; subst hq7; obtain ⟨a5, c5, rfl, _⟩ := own_form ho5c; obtain ⟨a7, c7, rfl, _⟩ := own_form ho7; have kmk := Lib.hid (l1Make_any a5 a7 (ln + 1) c5 c7 (t.step k) w7 HSL.out (Ex.of_own ho7 (by rw [Hst2.out]; exact (HEl.out.below hb7).snoc hat7 hc6 hm6) (by rw [Hst2.out, T.app_cnt, Hln.out]; rfl)) (Sl.of_own (by have h := ho5c; rw [Hst2.out, T.times_app]; simpa [ints, T.times] using h)))))
            have hb07 := Hb01.out.trans (hb7.mono Hb01.out.size)
            have Hb07 := Lib.hid hb07
            clear hb7 hz7 ho5c hat7 ho7 hg7 hb07
            go_wp2_with fail
            refine (kmk.out).mono ?_
            rintro ee wr ⟨ar, cr, rfl, hor, hbr⟩
            have hfin : RowPost w (t.step k) (.returned (.slice ar (t.step k).enc.length cr)) wr := ⟨ar, cr, rfl, Joins.ownsRow_le (base' := w.heap.size) hor Hb07.out.size, Hb07.out.trans (hbr.mono Hb07.out.size)⟩
            have Hfin := Lib.hid hfin
            clear hor hbr hfin
            go_wp2_with fail
            go_ret
            exact Hfin.out

theorem spec_OrdStep (ao : Option Addr) (len cap : Nat) (xs : List Int) (n : Int) (w : World) (h : Sl w ao len cap xs) (_hn0 : -9223372036854775808 ≤ n) (_hn1 : n ≤ 9223372036854775807) :
    Calls Try.prog 43 #[.slice ao len cap, .int .i64 n] w (OrdOkPost w (T.stepRow xs n) (T.stepOk xs n)) := by
  rcases vld_tf xs with h1 | h1
  · have k1 := Lib.hid (spec_valid ao len cap xs w h h1)
    by_cases hin : 0 ≤ n ∧ n ≤ 99
    · have ks := Lib.hid (fun w => l1In_yes n 0 99 w hin.1 hin.2)
      obtain ⟨b, off, t, rfl, rfl, hs, hos, hat, hn, hl, hp, hc, hm⟩ := h.valid h1
      obtain ⟨e1, e2⟩ := T.stepRow_val h1 hin.1 hin.2
      rw [e1, e2]
      have HA := Lib.hid hat
      have HN := Lib.hid hn
      have HS := Lib.hid hs
      have HIN := Lib.hid hin
      obtain ⟨S, hS⟩ : ∃ S, S = t.step n := ⟨_, rfl⟩
      obtain ⟨r, hr⟩ : ∃ r, r = T.fit S := ⟨_, rfl⟩
      obtain ⟨v, hv⟩ : ∃ v, v = T.vldB S.enc := ⟨_, rfl⟩
      rw [← hS, ← hr, ← hv]
      have Hr := Lib.hid hr
      have Hv := Lib.hid hv
      have HSS := Lib.hid hS
      clear h h1 hos hs hat hn hin _hn0 _hn1 e1 e2 hr hv hS
      go_enter Try.func43, Try.ntmps43
      go_wp2_with fail
      refine (k1.out).mono ?_
      rintro ee w1 ⟨rfl, hb1⟩
      have Hb1 := Lib.hid hb1
      have k2 := Lib.hid (l3Step_any n HIN.out.1 (t.body.length + 1) b off len cap t w1 (by omega) HN.out hl hc hm (HA.out.below hb1 (HA.out.lt (T.enc_ne t))) HS.out)
      unfold RowPost at k2
      rw [← HSS.out] at k2
      clear hb1
      go_wp2_with fail
      refine (ks.out _).mono ?_
      rintro ee w2 ⟨rfl, rfl⟩
      go_wp2_with fail
      refine (k2.out).mono ?_
      rintro ee w2 ⟨a2, c2, rfl, ho2, hb2⟩
      have Hb2 := Lib.hid (Hb1.out.trans (hb2.mono Hb1.out.size))
      have k3 := Lib.hid (l2Fit_any a2 c2 S w w2 Hb2.out (Joins.ownsRow_le (base' := w.heap.size) ho2 Hb1.out.size))
      unfold OrdOkPost at k3
      rw [← Hr.out, ← Hv.out] at k3
      clear ho2 hb2
      go_wp2_with fail
      refine (k3.out).mono ?_
      rintro ee w3 ⟨a3, c3, rfl, ho3, hb3⟩
      have Ho3 := Lib.hid ho3
      have Hb3 := Lib.hid hb3
      clear ho3 hb3
      go_wp2_with fail
      go_ret2
      exact ⟨a3, c3, rfl, Ho3.out, Hb3.out⟩
    · have ks := Lib.hid (fun w => l1In_no n 0 99 w (by omega))
      obtain ⟨e1, e2⟩ := T.stepRow_bad (xs := xs) (n := n) (.inr hin)
      rw [e1, e2]
      clear h h1 hin _hn0 _hn1 e1 e2
      go_enter Try.func43, Try.ntmps43
      go_wp2_with fail
      refine (k1.out).mono ?_
      rintro ee w1 ⟨rfl, hb1⟩
      have Hb1 := Lib.hid hb1
      clear hb1
      go_wp2_with fail
      refine (ks.out _).mono ?_
      rintro ee w2 ⟨rfl, rfl⟩
      go_wp2_with fail
      go_ret2
      exact lit_post Hb1.out
  · have k1 := Lib.hid (spec_valid ao len cap xs w h h1)
    obtain ⟨e1, e2⟩ := T.stepRow_bad (xs := xs) (n := n) (.inl h1)
    rw [e1, e2]
    clear h h1 _hn0 _hn1 e1 e2
    go_enter Try.func43, Try.ntmps43
    go_wp2_with fail
    refine (k1.out).mono ?_
    rintro ee w1 ⟨rfl, hb1⟩
    have Hb1 := Lib.hid hb1
    clear hb1
    go_wp2_with fail
    go_ret2
    exact lit_post Hb1.out
end Go.Proofs.Ythalogciiochfaa
