/- HydraOrd, the program's: the ordinal of a node. -/
import Derived.Test.YtigkceenhocidaaTreeG
import Derived.Test.YtigkceenhocidaaHydN
import Derived.Test.YtigkceenhocidaaNatJ
import Derived.Test.YtigkceenhocidaaPower
namespace Go.Proofs.Ytigkceenhocidaa
set_option maxRecDepth 100000
open Go.RowKit

def NodeRel (w : World) (f : H) (v4 v5 v18 : Value) (wr : World) : Prop :=
  ∃ (i n : Nat) (d u : H) (a4 : Option Addr) (c4 : Nat), d.app u = f ∧ d.cnt = i ∧ v18 = .int .i64 i ∧ n = (T.fit d.ord).length ∧ v4 = .slice a4 n c4 ∧ v5 = .bool (T.vldB d.ord.enc) ∧
    wr.ownsRow w.heap.size 3 1 (.slice a4 n c4) n (ints (T.fit d.ord)) ∧ Below w.heap.size w wr

set_option maxHeartbeats 4000000 in
theorem nodeOrd_any (N : Nat) : ∀ (f : H) (p m : Nat) (w : World), f.body.length < N → f.enc.length ≤ 60 → Nd w f p m →
    Calls Try.prog 52 #[.pointer (some ⟨p, 0, none⟩)] w (OrdOkPost w (T.fit f.ord) (T.vldB f.ord.enc)) := by
  induction N with
  | zero => intro f p m w h; omega
  | succ N ih =>
    intro f p m w hN hl hnd
    obtain ⟨ao, c, us, q1, q2, q3, q4, q5⟩ := hnd
    have hel := H.enc_len f
    have hct := H.cnt_le f
    have xp : w.cell? ⟨p, 0, none⟩ = some (.slice ao f.cnt c) := Joins.cell_of_block q2 0
    have hpl : p < w.heap.size := (Array.getElem?_eq_some_iff.1 q2).1
    obtain ⟨K, hK⟩ : ∃ K, K = f.cnt := ⟨_, rfl⟩
    rw [← hK] at xp q3
    have hK60 : K ≤ 60 := by omega
    have hfb : f.body.length ≤ 9000 := by omega
    have k0 := Lib.hid (impl_OrdOf 0 w (by decide) (by decide))
    have hzv : T.vldB (H.ord .z).enc = true := T.vld_mk (t := .z) trivial (by decide)
    have hz : T.fit (H.ord .z) = T.num' 0 := by rw [T.fit, if_pos hzv]; rfl
    obtain ⟨rf, hrf⟩ : ∃ rf, rf = T.fit f.ord := ⟨_, rfl⟩
    obtain ⟨ro, hro⟩ : ∃ ro, ro = T.vldB f.ord.enc := ⟨_, rfl⟩
    rw [← hrf, ← hro]
    have Hrf := Lib.hid hrf
    have Hro := Lib.hid hro
    clear hrf hro
    have hst : ∀ a c w1, w1.ownsRow w.heap.size 3 1 (.slice a (T.num' 0).length c) (T.num' 0).length (ints (T.num' 0)) → Below w.heap.size w w1 →
        NodeRel w f (.slice a (T.num' 0).length c) (.bool true) (.int .i64 ((0 : Nat) : Int)) w1 := by
      intro a c w1 h1 h2
      exact ⟨0, (T.num' 0).length, .z, f, a, c, rfl, rfl, rfl, by rw [hz], rfl, by rw [hzv], by rw [hz]; exact h1, h2⟩
    have IH := Lib.hid ih
    have HN := Lib.hid hN
    have HK := Lib.hid hK
    have Hst := Lib.hid hst
    have Hq3 := Lib.hid q3
    have Hq5 := Lib.hid q5
    have Hhf := Lib.hid hfb
    have Hl := Lib.hid hl
    clear ih hN hK hst q2 q3 q4 q5 hel hct hfb hl hz hzv
    go_enter Try.func52, Try.ntmps52
    go_wp2_with fail
    refine (k0.out).mono ?_
    rintro ee w1 ⟨a1, c1, rfl, ho1, hb1⟩
    have hs1 := Hst.out a1 c1 w1 ho1 hb1
    obtain ⟨L1, hL1⟩ : ∃ L, L = (T.num' 0).length := ⟨_, rfl⟩
    rw [← hL1] at hs1 ⊢
    have Hs1 := Lib.hid hs1
    have xp1 : w1.cell? ⟨p, 0, none⟩ = some (.slice ao K c) := (hb1.cell (p := ⟨p, 0, none⟩) hpl).trans xp
    clear ho1 hb1 hL1 hs1
    go_wp2_with fail
    go_loopw [4, 5, 18] (fun v4 v5 v18 wr => NodeRel w f v4 v5 v18 wr) (fun _ _ v18 _ => K - (intOf v18).toNat)
    case atStart => exact Hs1.out
    case round =>
      obtain ⟨i, n, d, u, a4, c4, h1, h2, rfl, hn, rfl, rfl, ho, hbr⟩ := hrel
      have hci : K = i + u.cnt := by rw [HK.out, ← h1, H.app_cnt, h2]
      by_cases hlt : i < K
      · obtain ⟨k, r, rfl⟩ : ∃ k r, u = .c k r := H.cnt_pos (by omega)
        obtain ⟨q, mq, x1, x2, x3, x4, x5⟩ := Hq5.out.pick h1 h2
        obtain ⟨ga, ca, hva⟩ := Joins.ownsRow_form Hq3.out (by omega)
        simp only [Value.slice.injEq, true_and] at hva
        obtain ⟨rfl, rfl⟩ := hva
        have hgl : ga < w.heap.size := (Hq3.out.lt ga rfl).2
        have y1 : wr.cell? ⟨ga, i, none⟩ = some (.pointer (some ⟨q, 0, none⟩)) := (hbr.cell (p := ⟨ga, i, none⟩) hgl).trans ((Hq3.out.cellAt i (by omega)).trans x1)
        have hbody : d.body.length + (k.body.length + 1 + r.body.length) = f.body.length := by rw [← h1, H.app_body, List.length_append, H.body_c, List.length_append, H.enc_len]
        have hkl : k.enc.length ≤ 60 := by have := H.enc_len k; have := H.enc_len f; have := Hl.out; omega
        have kn := Lib.hid (IH.out k q mq wr (by have := HN.out; omega) hkl (x5.below hbr))
        have hst1 := H.ord_step h1 Hhf.out
        unfold OrdOkPost at kn
        obtain ⟨E, hE⟩ : ∃ E, E = T.fit k.ord := ⟨_, rfl⟩
        obtain ⟨EB, hEB⟩ : ∃ E, E = T.vldB k.ord.enc := ⟨_, rfl⟩
        rw [← hE, ← hEB] at kn
        rw [← hE] at hst1
        have H1 := Lib.hid h1
        have H2 := Lib.hid h2
        have Hci := Lib.hid hci
        have Ho := Lib.hid ho
        have Hbr := Lib.hid hbr
        have Hst1 := Lib.hid hst1
        have Hn := Lib.hid hn
        clear h1 h2 hci ho hbr hst1 hn x1 x2 x3 x4 x5 hbody hkl hE hEB
        go_wp2_with fail
        refine (kn.out).mono ?_
        rintro ee w2 ⟨a8, c8, rfl, ho8, hb8⟩
        have Hb2 := Lib.hid (Hbr.out.trans (hb8.mono Hbr.out.size))
        have Ho2 := Lib.hid (ownsRow_below' Ho.out hb8)
        have kp := Lib.hid (impl_OrdPower a8 E.length c8 E w2 (Sl.of_own ho8))
        obtain ⟨Q, hQ⟩ : ∃ Q, Q = T.powRow E := ⟨_, rfl⟩
        obtain ⟨QB, hQB⟩ : ∃ Q, Q = T.powOk E := ⟨_, rfl⟩
        rw [← hQ, ← hQB] at kp
        have HQ := Lib.hid hQ
        clear ho8 hb8 hQ hQB
        go_wp2_with fail
        refine (kp.out).mono ?_
        rintro ee w3 ⟨a10, c10, rfl, ho10, hb10⟩
        have Hb3 := Lib.hid (Hb2.out.trans (hb10.mono Hb2.out.size))
        have Ho3 := Lib.hid (ownsRow_below' Ho2.out hb10)
        have ht := Hst1.out
        rw [← HQ.out] at ht
        have kt := Lib.hid (impl_OrdNatural a4 a10 n c4 Q.length c10 (T.fit d.ord) Q w3 (Sl.of_own Ho3.out) (Sl.of_own ho10))
        unfold OrdOkPost at kt
        rw [ht.1, ht.2] at kt
        obtain ⟨R, hR⟩ : ∃ R, R = T.fit (H.ord (d.app (.c k .z))) := ⟨_, rfl⟩
        obtain ⟨RB, hRB⟩ : ∃ R, R = T.vldB (H.ord (d.app (.c k .z))).enc := ⟨_, rfl⟩
        rw [← hR, ← hRB] at kt
        have HR := Lib.hid hR
        have HRB := Lib.hid hRB
        clear ho10 hb10 ht hR hRB
        go_wp2_with fail
        refine (kt.out).mono ?_
        rintro ee w4 ⟨a12, c12, rfl, ho12, hb12⟩
        have hfin : NodeRel w f (.slice a12 R.length c12) (.bool RB) (.int .i64 ((i + 1 : Nat) : Int)) w4 :=
          ⟨i + 1, R.length, d.app (.c k .z), r, a12, c12, by rw [H.app_assoc]; exact H1.out, by rw [H.app_cnt, H2.out]; rfl, rfl, by rw [HR.out], rfl, by rw [HRB.out], by rw [← HR.out]; exact Joins.ownsRow_le ho12 Hb3.out.size, Hb3.out.trans (hb12.mono Hb3.out.size)⟩
        have Hfin := Lib.hid hfin
        clear ho12 hb12 hfin
        go_wp2_with fail
        go_roundw
        case rel => exact Hfin.out
        case measure => simp [intOf]; omega
      · have hu : u = .z := H.cnt_zero (by omega)
        subst hu
        have hdf : d = f := by rw [H.app_z] at h1; exact h1
        subst hdf
        have hp : OrdOkPost w rf ro (.returned (.tuple #[.slice a4 n c4, .bool ro])) wr := by
          rw [Hrf.out]
          exact ⟨a4, c4, by rw [hn], by rw [← hn]; exact ho, hbr⟩
        rw [← Hro.out]
        have Hp := Lib.hid hp
        clear h1 h2 hci ho hbr hn hp
        go_wp2_with fail
        go_ret2
        exact Hp.out

theorem impl_HydraOrd (ao : Option Addr) (len cap : Nat) (xs : List Int) (w : World) (h : Sl w ao len cap xs) :
    Calls Try.prog 26 #[.slice ao len cap] w (OrdOkPost w (H.ordRow xs) (H.ordRowOk xs)) := by
  have k1 := Lib.hid (impl_HydraValid ao len cap xs w h)
  rcases H.hv_tf xs with hv | hv
  · obtain ⟨f, he, h60, hof⟩ := H.hv_of hv
    subst he
    rw [H.ordRow, if_pos hv, H.ordRowOk, hof, hv, Bool.true_and]
    rw [hv] at k1
    have k2 := Lib.hid (treeOf_any ao len cap f w h (by rw [← h.1]; exact h60))
    have H60 := Lib.hid h60
    obtain ⟨r, hr⟩ : ∃ r, r = T.fit f.ord := ⟨_, rfl⟩
    obtain ⟨o, ho⟩ : ∃ o, o = T.vldB f.ord.enc := ⟨_, rfl⟩
    have k3 := fun w1 (hn : Nd w1 f w.heap.size w1.heap.size) => nodeOrd_any (f.body.length + 1) f w.heap.size w1.heap.size w1 (by omega) h60 hn
    rw [← hr, ← ho] at k3 ⊢
    unfold OrdOkPost at k3
    have K3 := Lib.hid k3
    clear h hv h60 hof hr ho k3
    go_enter Try.func26, Try.ntmps26
    go_wp2_with fail
    refine (k1.out).mono ?_
    rintro ee w' ⟨rfl, rfl⟩
    go_wp2_with fail
    refine (k2.out).mono ?_
    rintro ee w1 ⟨rfl, hn, hb⟩
    have Hb := Lib.hid hb
    have k4 := Lib.hid (K3.out w1 hn)
    clear hn hb
    go_wp2_with fail
    refine (k4.out).mono ?_
    rintro ee w2 ⟨a2, c2, rfl, ho2, hb2⟩
    have Ho2 := Lib.hid (Joins.ownsRow_le ho2 Hb.out.size)
    have Hb2 := Lib.hid (Hb.out.trans (hb2.mono Hb.out.size))
    clear ho2 hb2
    go_wp2_with fail
    go_ret2
    exact ⟨a2, c2, rfl, Ho2.out, Hb2.out⟩
  · rw [H.ordRow, if_neg (by rw [hv]; simp), H.ordRowOk, hv, Bool.false_and]
    rw [hv] at k1
    clear h hv
    go_enter Try.func26, Try.ntmps26
    go_wp2_with fail
    refine (k1.out).mono ?_
    rintro ee w' ⟨rfl, rfl⟩
    go_wp2_with fail
    go_ret2
    exact OrdOkPost.nil (nil_own _ _) (Below.refl _ _)

end Go.Proofs.Ytigkceenhocidaa
