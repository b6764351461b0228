/- HydraOrd, the model's. -/
import Derived.Test.YtigkceenhocidaaHydA
import Derived.Test.YtigkceenhocidaaHydB
import Derived.Test.YtigkceenhocidaaPost
namespace Go.Proofs.Ytigkceenhocidaa
set_option maxRecDepth 100000
open Go.RowKit

def OrdAcc (w : World) (f : H) (v4 v5 : Value) (wr : World) : Prop :=
  ∃ (i n : Nat) (d u : H) (a4 : Option Addr) (c4 : Nat), v5 = .int .i64 i ∧ d.app u = f ∧ d.cnt = i ∧ n = d.ord.enc.length ∧ v4 = .slice a4 n c4 ∧ wr.ownsRow w.heap.size 3 1 v4 n (ints d.ord.enc) ∧ Below w.heap.size w wr

theorem row_at {w : World} {B n c : Nat} {a : Option Addr} {xs : List Int} (h : w.ownsRow B 3 1 (.slice a n c) n (ints xs)) (hp : 0 < n) : ∃ g, a = some ⟨g, 0, none⟩ ∧ At w g 0 xs ∧ xs.length = n ∧ n ≤ c ∧ c ≤ maxLen := by
  obtain ⟨q1, q2, q3, q4⟩ := Sl.of_own h
  obtain ⟨g, c', hv⟩ := Joins.ownsRow_form h hp
  simp only [Value.slice.injEq, true_and] at hv
  obtain ⟨rfl, rfl⟩ := hv
  obtain ⟨b, o, h1, h2⟩ := q4 hp
  cases h1
  exact ⟨g, rfl, h2, q1, q2, q3⟩

set_option maxHeartbeats 4000000 in
theorem l5Ord_any (N : Nat) : ∀ (b off len cap : Nat) (f : H) (w : World), f.body.length < N → f.enc.length = len → len ≤ 60 → len ≤ cap → cap ≤ maxLen → At w b off f.enc →
    Calls Try.prog 51 #[.slice (some ⟨b, off, none⟩) len cap] w (RowPost w f.ord.enc) := by
  induction N with
  | zero => intro b off len cap f w h; omega
  | succ N ih =>
    intro b off len cap f w hN hl hb hlc hcm hat
    obtain ⟨i0, hi, hz0, hz1, hz2⟩ := info_parts info_int
    have k1 := Lib.hid (l5Branches_any b off len cap f w hl hb hlc hcm hat)
    have hel := H.enc_len f
    have hct := H.cnt_le f
    obtain ⟨K, hK⟩ : ∃ K, K = f.cnt := ⟨_, rfl⟩
    have hK60 : K ≤ 60 := by omega
    have hfb : f.body.length ≤ 60 := by omega
    rw [← hK] at k1
    obtain ⟨rf, hrf⟩ : ∃ rf, rf = f.ord.enc := ⟨_, rfl⟩
    rw [← hrf]
    have Hrf := Lib.hid hrf
    have IH := Lib.hid ih
    have HN := Lib.hid hN
    have HK := Lib.hid hK
    have Hfb := Lib.hid hfb
    have Hl := Lib.hid hl
    clear ih hN hK hfb hl hel hct hrf hat
    go_enter Try.func51, Try.ntmps51
    go_wp2_with fail
    refine (k1.out).mono ?_
    rintro ee w1 ⟨g, c, es, rfl, ho1, hE, hb1⟩
    have Ho1 := Lib.hid ho1
    have HE := Lib.hid (hE.below hb1)
    have Hb1 := Lib.hid hb1
    have hgl : g < w1.heap.size := (ho1.lt g rfl).2
    have hst : OrdAcc w1 f (.slice (some ⟨w1.heap.size, 0, none⟩) 1 1) (.int .i64 ((0 : Nat) : Int)) (w1.alloc (.cells #[.int .i64 0] 3)) :=
      ⟨0, 1, .z, f, _, 1, rfl, rfl, rfl, rfl, rfl, World.ownsRow_lit w1 #[.int .i64 0] 1 (Nat.le_refl _) (by simp [maxLen]) rfl, (Below.refl _ _).alloc (Nat.le_refl _) _⟩
    have Hst := Lib.hid hst
    clear ho1 hE hb1 hst
    go_wp2_with fail
    go_loopw [4, 5] (fun v4 v5 wr => OrdAcc w1 f v4 v5 wr) (fun _ v5 _ => K - (intOf v5).toNat)
    case atStart => exact Hst.out
    case round =>
      obtain ⟨i, n, d, u, a4, c4, rfl, h1, h2, hn, rfl, ho, hbr⟩ := hrel
      have hci : K = i + u.cnt := by rw [HK.out, ← h1, H.app_cnt, h2]
      have hn1 : 1 ≤ n := by rw [hn, T.enc_len]; omega
      by_cases hlt : i < K
      · obtain ⟨k, r, rfl⟩ : ∃ k r, u = .c k r := H.cnt_pos (by omega)
        obtain ⟨bk, ok, ck, x1, x2, x3, x4⟩ := HE.out.pick h1 h2
        have hbody : d.body.length + (k.body.length + 1 + r.body.length) = f.body.length := by rw [← h1, H.app_body, List.length_append, H.body_c, List.length_append, H.enc_len]
        have hkl : k.enc.length ≤ 60 := by have := H.enc_len k; have := Hfb.out; omega
        have hdm := H.ord_max d
        have hkm := H.ord_max k
        have hnm : n ≤ 130 := by have := Hfb.out; omega
        have hkn : k.ord.enc.length ≤ 130 := by have := Hfb.out; omega
        have hdnf : d.ord.Nf := H.ord_nf (by have := Hfb.out; omega)
        have y1 : (wr.alloc (.cells #[.int .i64 1, .int .i64 1] 3)).cell? ⟨g, i, none⟩ = some (.slice (some ⟨bk, ok, none⟩) k.enc.length ck) := by
          rw [World.cell?_alloc_past _ _ _ (by exact Nat.lt_of_lt_of_le hgl hbr.size)]
          exact (hbr.cell (p := ⟨g, i, none⟩) hgl).trans ((Ho1.out.cellAt i (by omega)).trans x1)
        have hsr := hbr.size
        have hbA : Below w1.heap.size w1 (wr.alloc (.cells #[.int .i64 1, .int .i64 1] 3)) := hbr.alloc hsr _
        have kn := Lib.hid (IH.out bk ok k.enc.length ck k (wr.alloc (.cells #[.int .i64 1, .int .i64 1] 3)) (by have := HN.out; omega) rfl hkl x3 x4 (x2.below hbA (x2.lt (H.enc_ne k))))
        unfold RowPost at kn
        have hlit := World.ownsRow_lit (base := w1.heap.size) (e := 3) (size := 1) wr #[.int .i64 1, .int .i64 1] 2 hsr (by simp [maxLen]) rfl
        have hoW := ho.alloc (.cells #[.int .i64 1, .int .i64 1] 3)
        obtain ⟨W, hW⟩ : ∃ W, W = wr.alloc (.cells #[.int .i64 1, .int .i64 1] 3) := ⟨_, rfl⟩
        rw [← hW] at hbA kn hlit hoW
        have hlt2 : wr.heap.size < W.heap.size := by rw [hW]; simp
        obtain ⟨L, hL⟩ : ∃ L, L = k.ord.enc.length := ⟨_, rfl⟩
        rw [← hL] at kn hkn
        have HW := Lib.hid hW.symm
        have HLk := Lib.hid hL
        have Hlit := Lib.hid (show W.ownsRow w1.heap.size 3 1 (.slice (some ⟨wr.heap.size, 0, none⟩) 2 2) 2 (ints [1, 1]) from hlit)
        have HoW := Lib.hid hoW
        have HbW := Lib.hid hbA
        have H1 := Lib.hid h1
        have H2 := Lib.hid h2
        have Hn := Lib.hid hn
        have Hnf := Lib.hid hdnf
        have hL1 : 1 ≤ L := by rw [hL, T.enc_len]; omega
        have Hv4 := Lib.hid (show ∀ k, (Value.slice a4 n c4).ownBlock = some k → k < wr.heap.size from fun k hk => (ho.lt k hk).2)
        clear h1 h2 hn hci hbody hkl hdm hkm hdnf ho hbr hbA hW hL hlit hoW x1 x2 x3 x4
        go_upto_region 7 with (first
          | (go_at_call 51; rw [HW.out]; (with_reducible refine (kn.out).mono ?_); rintro ee w2 ⟨a8, c8, rfl, ho8, hb2⟩; obtain ⟨g8, rfl, hat8, hln8, hlc8, hm8⟩ := row_at ho8 (by omega); have Hl2 := Lib.hid (ownsRow_below' Hlit.out hb2); have Ho2 := Lib.hid (ownsRow_below' HoW.out hb2); have Hb2 := Lib.hid (HbW.out.trans (hb2.mono HbW.out.size)); have hs2 := Hb2.out.size; have Hat8 := Lib.hid hat8; have Hl8 := Lib.hid hln8; have H8 := Lib.hid (show w2.ownsRow W.heap.size 3 1 (.slice (some ⟨g8, 0, none⟩) L c8) L (ints k.ord.enc) from ho8); clear ho8 hat8 hln8 hb2)
          | (at_builtin; refine wpList_append_own _ rfl (.tmp 16) (.tmp 21) 22 rfl w1.heap.size 3 i0 (.int .i64 0) 1 8 Try.underlying22 hi hz0 hz1 hz2 rfl (by decide) _ 2 (ints [1, 1]) rfl Hl2.out ⟨g8, 0, none⟩ L c8 (ints k.ord.enc) rfl (by rw [ints_len, Hl8.out, Nat.mul_one]) Hat8.out.news (ints_one _) (by unfold maxLen; omega) (by omega) (by omega) ?_; intro v6 w3 ho3 hg3 _))
        have Ho3 := Lib.hid (Ho2.out.kept hg3 (.inr (fun he => by have h9 := Hv4.out wr.heap.size (he.trans rfl); omega)))
        have hee : (T.c 1 k.ord .z).enc = [1, 1] ++ k.ord.enc := by rw [T.enc, T.body_c]; simp [T.cnt, T.body]
        have ho6 : w3.ownsRow w1.heap.size 3 1 v6 (2 + L) (ints (T.c 1 k.ord .z).enc) := by
          rw [hee]
          have : ints ([1, 1] ++ k.ord.enc) = ints [1, 1] ++ ints k.ord.enc := by simp [ints]
          rw [this]
          exact ho3
        have hb3 := Hb2.out.grown hg3 (by omega) (fun q hq => (Hl2.out.lt q hq).1)
        obtain ⟨a6, c6, rfl, _⟩ := own_form ho6
        obtain ⟨g6, rfl, hat6, hln6, hlc6, hm6⟩ := row_at ho6 (by omega)
        obtain ⟨g4, rfl, hat4, hln4, hlc4, hm4⟩ := row_at Ho3.out (by omega)
        have ka := Lib.hid (l5Add_any g4 0 n c4 g6 0 (2 + L) c6 d.ord k.ord w3 Hn.out hln6.symm (by omega) (by omega) hlc4 hm4 hlc6 hm6 hat4 hat6 Hnf.out)
        rw [← H.ord_snoc] at ka
        unfold RowPost at ka
        obtain ⟨R, hR⟩ : ∃ R, R = (H.ord (d.app (.c k .z))).enc := ⟨_, rfl⟩
        rw [← hR] at ka
        have HR := Lib.hid hR
        have Hb3 := Lib.hid hb3
        clear ho3 hg3 ho6 hb3 hee hat6 hln6 hlc6 hm6 hat4 hln4 hlc4 hm4 hR
        go_wp2_with fail
        refine (ka.out).mono ?_
        rintro ee w4 ⟨a7, c7, rfl, ho7, hb7⟩
        have hfin : OrdAcc w1 f (.slice a7 R.length c7) (.int .i64 ((i + 1 : Nat) : Int)) w4 :=
          ⟨i + 1, R.length, d.app (.c k .z), r, a7, c7, rfl, by rw [H.app_assoc]; exact H1.out, by rw [H.app_cnt, H2.out]; rfl, by rw [HR.out], rfl, by rw [← HR.out]; exact Joins.ownsRow_le ho7 Hb3.out.size, Hb3.out.trans (hb7.mono Hb3.out.size)⟩
        have Hfin := Lib.hid hfin
        clear ho7 hb7 hfin
        go_wp2_with fail
        go_roundw
        case rel => exact Hfin.out
        case measure => simp [intOf]; omega
      · have hu : u = .z := H.cnt_zero (by omega)
        subst hu
        have hdf : d = f := by rw [H.app_z] at h1; exact h1
        subst hdf
        have hp : RowPost w rf (.returned (.slice a4 n c4)) wr := by
          rw [Hrf.out]
          exact ⟨a4, c4, by rw [hn], by rw [← hn]; exact Joins.ownsRow_le ho Hb1.out.size, Hb1.out.trans (hbr.mono Hb1.out.size)⟩
        have Hp := Lib.hid hp
        clear h1 h2 hci ho hbr hn hp
        go_wp2_with fail
        go_ret
        exact Hp.out

theorem spec_HydraOrd (ao : Option Addr) (len cap : Nat) (xs : List Int) (w : World) (h : Sl w ao len cap xs) :
    Calls Try.prog 25 #[.slice ao len cap] w (OrdOkPost w (H.ordRow xs) (H.ordRowOk xs)) := by
  have k1 := Lib.hid (spec_HydraValid ao len cap xs w h)
  rcases H.hv_tf xs with hv | hv
  · obtain ⟨f, he, h60, hof⟩ := H.hv_of hv
    subst he
    rw [H.ordRow, if_pos hv, H.ordRowOk, hof, hv, Bool.true_and]
    rw [hv] at k1
    have hlen : len = f.enc.length := h.1.symm
    obtain ⟨b, off, rfl, hat⟩ := h.2.2.2 (by rw [hlen, H.enc_len]; omega)
    have k2 := Lib.hid (l5Ord_any (f.body.length + 1) b off len cap f w (by omega) h.1 (by omega) h.2.1 h.2.2.1 hat)
    obtain ⟨r, hr⟩ : ∃ r, r = T.fit f.ord := ⟨_, rfl⟩
    obtain ⟨o, ho⟩ : ∃ o, o = T.vldB f.ord.enc := ⟨_, rfl⟩
    rw [← hr, ← ho]
    have Hr := Lib.hid hr
    have Hoo := Lib.hid ho
    clear h hv h60 hof hat hlen hr ho
    go_enter Try.func25, Try.ntmps25
    go_wp2_with fail
    refine (k1.out).mono ?_
    rintro ee w' ⟨rfl, rfl⟩
    go_wp2_with fail
    refine (k2.out).mono ?_
    rintro ee w1 ⟨a1, c1, rfl, ho1, hb1⟩
    have kf := Lib.hid (l2Fit_any a1 c1 f.ord w w1 hb1 ho1)
    unfold OrdOkPost at kf
    rw [← Hr.out, ← Hoo.out] at kf
    clear ho1 hb1
    go_wp2_with fail
    refine (kf.out).mono ?_
    rintro ee w2 ⟨a2, c2, rfl, ho2, hb2⟩
    have Ho2 := Lib.hid ho2
    have Hb2 := Lib.hid hb2
    clear ho2 hb2
    go_wp2_with fail
    go_ret2
    exact ⟨a2, c2, rfl, Ho2.out, Hb2.out⟩
  · rw [H.ordRow, if_neg (by rw [hv]; simp), H.ordRowOk, hv, Bool.false_and]
    rw [hv] at k1
    clear h hv
    go_enter Try.func25, Try.ntmps25
    go_wp2_with fail
    refine (k1.out).mono ?_
    rintro ee w' ⟨rfl, rfl⟩
    go_wp2_with fail
    go_ret2
    exact lit_post (Below.refl _ _)

end Go.Proofs.Ytigkceenhocidaa
