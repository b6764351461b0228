/- OrdStep of the program. -/
import Derived.Test.YthalogciiochfaaMost
import Derived.Test.YthalogciiochfaaPost
import Derived.Test.YthalogciiochfaaSem
namespace Go.Proofs.Ythalogciiochfaa
set_option maxRecDepth 100000
open Go.RowKit

theorem own_rowT {w : World} {B c : Nat} {a : Option Addr} {t : T} (h : w.ownsRow B 3 1 (.slice a t.enc.length c) t.enc.length (ints t.enc)) :
    ∃ g, a = some ⟨g, 0, none⟩ ∧ B ≤ g ∧ At w g 0 t.enc ∧ t.enc.length ≤ c ∧ c ≤ maxLen := by
  have hs := Sl.of_own h
  obtain ⟨b, o, he, hat⟩ := hs.2.2.2 (by rw [T.enc_len]; omega)
  obtain ⟨g, cap, hf⟩ := Joins.ownsRow_form h (by rw [T.enc_len]; omega)
  simp only [Value.slice.injEq] at hf
  obtain ⟨rfl, _, rfl⟩ := hf
  simp only [Option.some.injEq, Addr.mk.injEq, and_true] at he
  obtain ⟨rfl, rfl⟩ := he
  exact ⟨g, rfl, (h.lt g rfl).1, hat, hs.2.1, hs.2.2.1⟩

def StepPost (w : World) (t : T) (e : Ending) (w' : World) : Prop :=
  ∃ ao n c cs, e = .returned (.slice ao n c) ∧ n = t.cnt ∧ w'.ownsRow w.heap.size 63 2 (.slice ao n c) n cs ∧ TC w' t cs ∧ Below w.heap.size w w'

theorem T.step_small (k : Int) {t : T} (h : t.enc.length ≤ 60) : (t.step k).body.length ≤ 3540 ∧ (t.step k).enc.length ≤ 1000000000000 ∧ (t.step k).cnt ≤ 3540 := by
  have h1 := T.step_len k t
  have h2 := T.enc_len t
  have h3 : t.body.length * t.body.length ≤ 59 * 59 := Nat.mul_le_mul (by omega) (by omega)
  have h4 := T.cnt_le (t.step k)
  have h5 := T.enc_len (t.step k)
  omega

set_option maxHeartbeats 4000000 in
theorem steppedTerms_any (k : Int) (_hk0 : 0 ≤ k) (_hk1 : k ≤ 99) (N : Nat) : ∀ (b off n cap : Nat) (t : T) (w : World), t.body.length < N → n = t.enc.length → n ≤ 60 → n ≤ cap → cap ≤ maxLen → At w b off t.enc → t.Nf →
    Calls Try.prog 93 #[.slice (some ⟨b, off, none⟩) n cap, .int .i64 k] w (StepPost w (t.step k)) := by
  induction N with
  | zero => intro b off n cap t w h; omega
  | succ N ih =>
    intro b off n cap t w hN hn hb hc hm hat hnf
    obtain ⟨i0, hi, hz0, hz1, hz2⟩ := info_parts info_term
    have IH := Lib.hid ih
    have HA := Lib.hid hat
    have Hn := Lib.hid hn
    have HN := Lib.hid hN
    have HF := Lib.hid hnf
    have ki := Lib.hid (isZero_any b off n cap (t.cnt : Int) w (by rw [hn, T.enc_len]; omega) hat.head)
    have kt := Lib.hid (termsOf_old b off n cap t.enc t w hn.symm (by omega) hc hm hat rfl)
    clear ih hN hn hat hnf
    by_cases htz : t.cnt = 0
    · have hz : ((t.cnt : Int) == 0) = true := by rw [htz]; rfl
      have Hz := Lib.hid (T.cnt_zero htz)
      clear htz
      go_enter Try.func93, Try.ntmps93
      go_wp2_with fail
      refine (ki.out).mono ?_
      rintro ee wx ⟨rfl, rfl⟩
      go_wp2_with fail
      go_ret
      exact ⟨none, 0, 0, [], rfl, by rw [Hz.out]; rfl, World.ownsRow_nil _ _ _ _, by rw [Hz.out]; rfl, Below.refl _ _⟩
    · have hz : ((t.cnt : Int) == 0) = false := by simpa using htz
      obtain ⟨d, m, e, hd1, hd2⟩ := T.last_of t (by omega)
      have hst : t.step k = t.less.app (T.tail k e) := by rw [hd1, T.step_app]
      obtain ⟨q1, q2, q3⟩ := T.part_nf hd1.symm HF.out
      have hpl := T.part_len hd1.symm
      have hel : e.enc.length ≤ 60 := by have := Hn.out; have := T.enc_len t; omega
      have heN : e.body.length < N := by have := HN.out; omega
      obtain ⟨E, hE⟩ : ∃ E, E = e.step k := ⟨_, rfl⟩
      have hES := T.step_small k hel
      rw [← hE] at hES
      have HEL := Lib.hid hES.2.1
      have HE := Lib.hid hE.symm
      have HST := Lib.hid hst
      have Hd1 := Lib.hid hd1
      have Hd2 := Lib.hid hd2
      have HEF := Lib.hid q3
      have hcl : t.cnt ≤ 60 := by have := T.cnt_le t; have := T.enc_len t; have := Hn.out; omega
      have hge : 1 ≤ t.cnt := by omega
      obtain ⟨tc, htc⟩ : ∃ tc, tc = t.cnt := ⟨_, rfl⟩
      have Htc := Lib.hid htc
      clear htz hst hd1 hpl hE hES q3
      rw [← htc] at hz hcl hge hd2 ki
      go_enter Try.func93, Try.ntmps93
      go_wp2_with fail
      refine (ki.out).mono ?_
      rintro ee wx ⟨rfl, rfl⟩
      go_wp2_with fail
      refine (kt.out).mono ?_
      rintro ee w2 ⟨cs, rfl, ho, hT, hb2⟩
      rw [← htc] at ho ⊢
      obtain ⟨be, oe, ce, p1, p2, p3, p4, p5⟩ := hT.pick (d := d) (k := d.cnt) Hd1.out.symm rfl
      have x2 : w2.cell? ⟨w.heap.size, (tc - 1) * 2 + 1, none⟩ = some (.slice (some ⟨be, oe, none⟩) e.enc.length ce) := by
        rw [ho.cellAt _ (by omega), show (tc - 1) * 2 + 1 = 2 * d.cnt + 1 by omega]; exact p2
      have kl := Lib.hid (lastLess_any w.heap.size tc tc d e t m cs w w2 (by omega) (by omega) q1 q2 Hd1.out ho hT)
      have HAe := Lib.hid p3
      have Hb2 := Lib.hid hb2
      obtain ⟨g, hg⟩ : ∃ g, g = w.heap.size := ⟨_, rfl⟩
      have Hg := Lib.hid hg
      clear ho hT p1 p2 p3 hb2 htc
      rw [← hg] at x2 kl ⊢
      clear hg
      go_wp2_with fail
      refine (kl.out).mono ?_
      rintro ee w3 ⟨n', cs', rfl, hn', ho3, hT3, hb3⟩
      have ho3 := Joins.ownsRow_le (base' := w.heap.size) ho3 (Nat.le_of_eq Hg.out.symm)
      have hb3' := Hb2.out.trans (hb3.mono (Nat.le_of_eq Hg.out.symm))
      have hn'b : n' ≤ 60 := by
        have h1 := T.cnt_le t.less
        have h2 := T.less_len t
        have h3 := T.enc_len t
        have := Hn.out
        omega
      have HN' := Lib.hid hn'
      have Hb3 := Lib.hid hb3'
      have Ho3 := Lib.hid ho3
      have HT4 := Lib.hid hT3
      have kk := Lib.hid (kindOf_any be oe e.enc.length ce e w3 rfl (by omega) p4 p5 (HAe.out.below hb3' (HAe.out.lt (T.enc_ne e))))
      clear hn' ho3 hT3 hb3 hb3'
      go_wp2_with fail
      refine (kk.out).mono ?_
      rintro ee w4 ⟨rfl, hb4⟩
      have hb4' := Hb3.out.trans (hb4.mono Hb3.out.size)
      have Hb4 := Lib.hid hb4'
      have Ho4 := Lib.hid (ownsRow_below' Ho3.out hb4)
      have k5 := Lib.hid (IH.out be oe e.enc.length ce e w4 heN rfl hel p4 p5 (HAe.out.below hb4' (HAe.out.lt (T.enc_ne e))) HEF.out)
      unfold StepPost at k5
      rw [HE.out] at k5
      clear hb4 hb4'
      rcases T.kind_vals e with ⟨h0, _⟩ | ⟨h0 | h0, _⟩
      · have HK := Lib.hid h0
        rw [h0]
        clear h0
        have hstep : t.step k = t.less := by rw [HST.out, T.tail, if_pos HK.out, T.app_z]
        have hfin : StepPost w (t.step k) (.returned (.slice (some ⟨g, 0, none⟩) n' tc)) w4 := by
          rw [hstep]
          exact ⟨_, n', tc, cs', rfl, HN'.out, Ho4.out, HT4.out.below Hb4.out, Hb4.out⟩
        have Hfin := Lib.hid hfin
        clear hstep hfin
        go_wp2_with fail
        go_ret
        exact Hfin.out
      · have HK := Lib.hid h0
        rw [h0]
        clear h0
        by_cases hkz : k = 0
        · have hkb : (k == 0) = true := by rw [hkz]; rfl
          have HKZ := Lib.hid hkz
          clear hkz
          have hstep : t.step k = t.less := by rw [HST.out, T.tail, if_neg (by rw [HK.out]; decide), if_pos HK.out, if_pos HKZ.out, T.app_z]
          have hfin : StepPost w (t.step k) (.returned (.slice (some ⟨g, 0, none⟩) n' tc)) w4 := by
            rw [hstep]
            exact ⟨_, n', tc, cs', rfl, HN'.out, Ho4.out, HT4.out.below Hb4.out, Hb4.out⟩
          have Hfin := Lib.hid hfin
          clear hstep hfin
          go_wp2_with fail
          go_ret
          exact Hfin.out
        · have hkb : (k == 0) = false := by simpa using hkz
          have HKZ := Lib.hid hkz
          clear hkz
          go_wp2_with fail
          refine (k5.out).mono ?_
          rintro ee w5 ⟨a5, n5, c5, cs5, rfl, hn5, ho5, hT5, hb5⟩
          have hb45 := hb5
          have k6 := Lib.hid (ordOfTerms_any a5 n5 c5 E w5 HEL.out (Tm.of_own ho5 hT5 hn5))
          have Hb45 := Lib.hid hb45
          clear hn5 ho5 hT5 hb5 hb45
          go_wp2_with fail
          refine (k6.out).mono ?_
          rintro ee w6 ⟨a6, c6, rfl, ho6, hb6⟩
          have hb46 := Hb45.out.trans (hb6.mono Hb45.out.size)
          have hb06 := Hb4.out.trans (hb46.mono Hb4.out.size)
          have Ho4' := Lib.hid (ownsRow_below' Ho4.out hb46)
          have Ho6 := Lib.hid ho6
          obtain ⟨g6, rfl, hg6, hat6, hc6, hm6⟩ := own_rowT ho6
          have Hb06 := Lib.hid hb06
          have hs06 : w.heap.size ≤ w6.heap.size := hb06.size
          clear ho6 hb6 hb46 hb06 hat6
          go_wp2_with (first
            | (at_builtin; refine wpList_append_own _ rfl (.tmp 31) (.tmp 38) 54 rfl w.heap.size 63 i0 _ 2 32 Try.underlying54 hi hz0 hz1 hz2 rfl (by decide) _ n' cs' rfl (Ho4'.out.alloc _) ⟨w6.heap.size, 0, none⟩ 1 1 [.int .i64 k, .slice (some ⟨g6, 0, none⟩) E.enc.length c6] rfl rfl (cell_two_new _ _ _ _) (two_one _ _ rfl rfl) (by unfold maxLen; omega) (by omega) (by simp; omega) ?_; intro v7 w7 ho7 hg7 _))
          have hb7 : Below w.heap.size w w7 := (Hb06.out.alloc hs06 _).grown hg7 (by simp; omega) (fun k hk => (Ho4'.out.lt k hk).1)
          have hz7 := kept_of Ho6.out hg7 (own_ne Ho6.out Ho4'.out (by decide))
          obtain ⟨g7', hq7, _, hat7, _, _⟩ := own_rowT hz7
          simp only [Option.some.injEq, Addr.mk.injEq, and_true] at hq7
          subst hq7
          obtain ⟨g7, c7, rfl⟩ := Joins.ownsRow_form ho7 (by omega)
          have hstep : t.step k = t.less.app (.c k E .z) := by rw [HST.out, T.tail, if_neg (by rw [HK.out]; decide), if_pos HK.out, if_neg HKZ.out, HE.out]
          have hfin : StepPost w (t.step k) (.returned (.slice (some ⟨g7, 0, none⟩) (n' + 1) c7)) w7 := by
            refine ⟨_, n' + 1, c7, _, rfl, by rw [hstep, T.app_cnt, HN'.out]; rfl, ho7, ?_, hb7⟩
            rw [hstep]
            exact (HT4.out.below hb7).snoc hat7 hc6 hm6
          have Hfin := Lib.hid hfin
          clear hb7 hz7 hat7 ho7 hg7 hstep hfin
          go_wp2_with fail
          go_ret
          exact Hfin.out
      · have HK := Lib.hid h0
        rw [h0]
        clear h0
        go_wp2_with fail
        refine (k5.out).mono ?_
        rintro ee w5 ⟨a5, n5, c5, cs5, rfl, hn5, ho5, hT5, hb5⟩
        have hb45 := hb5
        have k6 := Lib.hid (ordOfTerms_any a5 n5 c5 E w5 HEL.out (Tm.of_own ho5 hT5 hn5))
        have Hb45 := Lib.hid hb45
        clear hn5 ho5 hT5 hb5 hb45
        go_wp2_with fail
        refine (k6.out).mono ?_
        rintro ee w6 ⟨a6, c6, rfl, ho6, hb6⟩
        have hb46 := Hb45.out.trans (hb6.mono Hb45.out.size)
        have hb06 := Hb4.out.trans (hb46.mono Hb4.out.size)
        have Ho4' := Lib.hid (ownsRow_below' Ho4.out hb46)
        have Ho6 := Lib.hid ho6
        obtain ⟨g6, rfl, hg6, hat6, hc6, hm6⟩ := own_rowT ho6
        have Hb06 := Lib.hid hb06
        have hs06 : w.heap.size ≤ w6.heap.size := hb06.size
        clear ho6 hb6 hb46 hb06 hat6
        go_wp2_with (first
          | (at_builtin; refine wpList_append_own _ rfl (.tmp 31) (.tmp 38) 54 rfl w.heap.size 63 i0 _ 2 32 Try.underlying54 hi hz0 hz1 hz2 rfl (by decide) _ n' cs' rfl (Ho4'.out.alloc _) ⟨w6.heap.size, 0, none⟩ 1 1 [.int .i64 1, .slice (some ⟨g6, 0, none⟩) E.enc.length c6] rfl rfl (cell_two_new _ _ _ _) (two_one _ _ rfl rfl) (by unfold maxLen; omega) (by omega) (by simp; omega) ?_; intro v7 w7 ho7 hg7 _))
        have hb7 : Below w.heap.size w w7 := (Hb06.out.alloc hs06 _).grown hg7 (by simp; omega) (fun k hk => (Ho4'.out.lt k hk).1)
        have hz7 := kept_of Ho6.out hg7 (own_ne Ho6.out Ho4'.out (by decide))
        obtain ⟨g7', hq7, _, hat7, _, _⟩ := own_rowT hz7
        simp only [Option.some.injEq, Addr.mk.injEq, and_true] at hq7
        subst hq7
        obtain ⟨g7, c7, rfl⟩ := Joins.ownsRow_form ho7 (by omega)
        have hstep : t.step k = t.less.app (.c 1 E .z) := by rw [HST.out, T.tail, if_neg (by rw [HK.out]; decide), if_neg (by rw [HK.out]; decide), HE.out]
        have hfin : StepPost w (t.step k) (.returned (.slice (some ⟨g7, 0, none⟩) (n' + 1) c7)) w7 := by
          refine ⟨_, n' + 1, c7, _, rfl, by rw [hstep, T.app_cnt, HN'.out]; rfl, ho7, ?_, hb7⟩
          rw [hstep]
          exact (HT4.out.below hb7).snoc hat7 hc6 hm6
        have Hfin := Lib.hid hfin
        clear hb7 hz7 hat7 ho7 hg7 hstep hfin
        go_wp2_with fail
        go_ret
        exact Hfin.out

theorem isStepNumber_any (n : Int) (w : World) :
    Calls Try.prog 73 #[.int .i64 n] w fun e w' => e = .returned (.bool (decide (0 ≤ n ∧ n ≤ 99))) ∧ w = w' := by
  by_cases h0 : 0 ≤ n
  · by_cases h1 : n ≤ 99
    · have hr : decide (0 ≤ n ∧ n ≤ 99) = true := by simp [h0, h1]
      rw [hr]
      clear hr
      go_enter Try.func73, Try.ntmps73
      go_wp2
      go_ret
      exact ⟨rfl, rfl⟩
    · have hr : decide (0 ≤ n ∧ n ≤ 99) = false := by simp [h1]
      have hd : decide (n ≤ 99) = false := by simp [h1]
      rw [hr]
      clear hr
      go_enter Try.func73, Try.ntmps73
      go_wp2
      go_ret
      exact ⟨rfl, rfl⟩
  · have hr : decide (0 ≤ n ∧ n ≤ 99) = false := by simp [h0]
    have hd : decide (0 ≤ n) = false := by simp [h0]
    rw [hr]
    clear hr
    go_enter Try.func73, Try.ntmps73
    go_wp2
    go_ret
    exact ⟨rfl, rfl⟩

theorem stepDown_any (k : Int) (hk0 : 0 ≤ k) (hk1 : k ≤ 99) (b off n cap : Nat) (t : T) (w : World) (hn : n = t.enc.length) (hl : n ≤ 60) (hc : n ≤ cap) (hm : cap ≤ maxLen) (hat : At w b off t.enc) (hnf : t.Nf) :
    Calls Try.prog 74 #[.slice (some ⟨b, off, none⟩) n cap, .int .i64 k] w (OrdOkPost w (T.fit (t.step k)) (T.vldB (t.step k).enc)) := by
  have k1 := Lib.hid (steppedTerms_any k hk0 hk1 (t.body.length + 1) b off n cap t w (by omega) hn hl hc hm hat hnf)
  obtain ⟨E, hE⟩ : ∃ E, E = t.step k := ⟨_, rfl⟩
  have hES := T.step_small k (hn ▸ hl)
  rw [← hE] at hES k1 ⊢
  have HEL := Lib.hid hES.2.1
  unfold StepPost at k1
  obtain ⟨r, hr⟩ : ∃ r, r = T.fit E := ⟨_, rfl⟩
  obtain ⟨v, hv⟩ : ∃ v, v = T.vldB E.enc := ⟨_, rfl⟩
  rw [← hr, ← hv]
  have Hr := Lib.hid hr
  have Hv := Lib.hid hv
  clear hn hat hnf hES hE hr hv
  go_enter Try.func74, Try.ntmps74
  go_wp2_with fail
  refine (k1.out).mono ?_
  rintro ee w1 ⟨ao, n1, c1, cs, rfl, hn1, ho1, hT1, hb1⟩
  have k2 := Lib.hid (fittingOrd_any ao n1 c1 E w1 HEL.out (Tm.of_own ho1 hT1 hn1))
  rw [← Hr.out, ← Hv.out] at k2
  have Hb1 := Lib.hid hb1
  clear hn1 ho1 hT1 hb1
  go_wp2_with fail
  refine (k2.out).mono ?_
  rintro ee w2 ⟨a2, c2, rfl, ho2, hb2⟩
  have Ho2 := Lib.hid (Joins.ownsRow_le (base' := w.heap.size) ho2 Hb1.out.size)
  have Hb2 := Lib.hid (Hb1.out.trans (hb2.mono Hb1.out.size))
  clear ho2 hb2
  go_wp2_with fail
  go_ret2
  exact ⟨a2, c2, rfl, Ho2.out, Hb2.out⟩

theorem T.stepRow_bad {xs : List Int} {n : Int} (h : T.vldB xs = false ∨ ¬ (0 ≤ n ∧ n ≤ 99)) : T.stepRow xs n = [] ∧ T.stepOk xs n = false := by
  constructor
  · rw [T.stepRow, if_neg]
    rintro ⟨h1, h2⟩
    rcases h with h | h
    · rw [h] at h1; cases h1
    · exact h h2
  · rw [T.stepOk]
    rcases h with h | h
    · rw [h]; rfl
    · rw [decide_eq_false h]; simp
theorem T.stepRow_val {t : T} {n : Int} (h : T.vldB t.enc = true) (h0 : 0 ≤ n) (h1 : n ≤ 99) : T.stepRow t.enc n = T.fit (t.step n) ∧ T.stepOk t.enc n = T.vldB (t.step n).enc := by
  constructor
  · rw [T.stepRow, if_pos ⟨h, h0, h1⟩, T.of_enc]
  · rw [T.stepOk, h, decide_eq_true ⟨h0, h1⟩, T.of_enc]; rfl

theorem impl_OrdStep (ao : Option Addr) (len cap : Nat) (xs : List Int) (n : Int) (w : World) (h : Sl w ao len cap xs) (_hn0 : -9223372036854775808 ≤ n) (_hn1 : n ≤ 9223372036854775807) :
    Calls Try.prog 42 #[.slice ao len cap, .int .i64 n] w (OrdOkPost w (T.stepRow xs n) (T.stepOk xs n)) := by
  have ks := Lib.hid (isStepNumber_any n)
  rcases vld_tf xs with h1 | h1
  · have k1 := Lib.hid (impl_valid ao len cap xs w h h1)
    by_cases hin : 0 ≤ n ∧ n ≤ 99
    · rw [decide_eq_true hin] at ks
      obtain ⟨b, off, t, rfl, rfl, hs, hos, hat, hn, hl, hp, hc, hm⟩ := h.valid h1
      obtain ⟨e1, e2⟩ := T.stepRow_val h1 hin.1 hin.2
      rw [e1, e2]
      have HA := Lib.hid hat
      have HN := Lib.hid hn
      have HS := Lib.hid hs
      have HIN := Lib.hid hin
      obtain ⟨r, hr⟩ : ∃ r, r = T.fit (t.step n) := ⟨_, rfl⟩
      obtain ⟨v, hv⟩ : ∃ v, v = T.vldB (t.step n).enc := ⟨_, rfl⟩
      rw [← hr, ← hv]
      have Hr := Lib.hid hr
      have Hv := Lib.hid hv
      clear h h1 hos hs hat hn hin _hn0 _hn1 e1 e2 hr hv
      go_enter Try.func42, Try.ntmps42
      go_wp2_with fail
      refine (k1.out).mono ?_
      rintro ee w1 ⟨rfl, hb1⟩
      have Hb1 := Lib.hid hb1
      have k2 := Lib.hid (stepDown_any n HIN.out.1 HIN.out.2 b off len cap t w1 HN.out hl hc hm (HA.out.below hb1 (HA.out.lt (T.enc_ne t))) HS.out)
      unfold OrdOkPost at k2
      rw [← Hr.out, ← Hv.out] at k2
      clear hb1
      go_wp2_with fail
      refine (ks.out _).mono ?_
      rintro ee w2 ⟨rfl, rfl⟩
      go_wp2_with fail
      refine (k2.out).mono ?_
      rintro ee w2 ⟨a2, c2, rfl, ho2, hb2⟩
      have Ho2 := Lib.hid (Joins.ownsRow_le (base' := w.heap.size) ho2 Hb1.out.size)
      have Hb2 := Lib.hid (Hb1.out.trans (hb2.mono Hb1.out.size))
      clear ho2 hb2
      go_wp2_with fail
      go_ret2
      exact ⟨a2, c2, rfl, Ho2.out, Hb2.out⟩
    · rw [decide_eq_false hin] at ks
      obtain ⟨e1, e2⟩ := T.stepRow_bad (xs := xs) (n := n) (.inr hin)
      rw [e1, e2]
      clear h h1 hin _hn0 _hn1 e1 e2
      go_enter Try.func42, Try.ntmps42
      go_wp2_with fail
      refine (k1.out).mono ?_
      rintro ee w1 ⟨rfl, hb1⟩
      have Hb1 := Lib.hid hb1
      clear hb1
      go_wp2_with fail
      refine (ks.out _).mono ?_
      rintro ee w2 ⟨rfl, rfl⟩
      go_wp2_with fail
      go_ret2
      exact OrdOkPost.nil (nil_own w w1) Hb1.out
  · have k1 := Lib.hid (impl_valid ao len cap xs w h h1)
    obtain ⟨e1, e2⟩ := T.stepRow_bad (xs := xs) (n := n) (.inl h1)
    rw [e1, e2]
    clear h h1 _hn0 _hn1 e1 e2
    go_enter Try.func42, Try.ntmps42
    go_wp2_with fail
    refine (k1.out).mono ?_
    rintro ee w1 ⟨rfl, hb1⟩
    have Hb1 := Lib.hid hb1
    clear hb1
    go_wp2_with fail
    go_ret2
    exact OrdOkPost.nil (nil_own w w1) Hb1.out
end Go.Proofs.Ythalogciiochfaa
