/- SlowValue: the model's answer. -/
import Derived.Test.YtfclhepmakhimaaSlow
namespace Go.Proofs.Ytfclhepmakhimaa
set_option maxRecDepth 100000
open Go.RowKit

set_option maxHeartbeats 1000000 in
theorem l3Raise_any (b v : Nat) (w : World) (hb1 : 1 ≤ b) (hb2 : b ≤ 99) (hv : v ≤ 1000000000) :
    Calls Try.prog 65 #[.int .i64 b, .int .i64 v] w fun e w' => e = .returned (.int .i64 (powI b v)) ∧ w = w' := by
  go_enter Try.func65, Try.ntmps65
  go_wp2_with fail
  go_loop [5, 6] (fun p i => ∃ (k x : Nat), k ≤ v ∧ x ≤ 1000000000 ∧ Hid (x = b ^ k ∧ (b = 1 → k = 0)) ∧ p = .int .i64 x ∧ i = .int .i64 k) (fun _ i => v - (intOf i).toNat)
  case atStart => exact ⟨0, 1, Nat.zero_le _, by omega, Lib.hid (by simp), rfl, rfl⟩
  case round =>
    obtain ⟨k, x, hk, hx, HX, rfl, rfl⟩ := hrel
    by_cases hlt : k < v
    · have hb99 : x * b ≤ 1000000000 * 99 := Nat.mul_le_mul hx hb2
      obtain ⟨y, hy⟩ : ∃ y, y = x * b := ⟨_, rfl⟩
      have hyi : (x : Int) * (b : Int) = (y : Int) := by rw [hy]; exact (Int.natCast_mul _ _).symm
      have hyw : wrap64 ((x : Int) * (b : Int)) = (y : Int) := by rw [hyi]; exact wrap_in (by omega) (by omega)
      have HY := Lib.hid hy
      rw [← hy] at hb99
      clear hy
      by_cases hg : 1000000000 < y
      · have hlarge : 1000000000 < b ^ v := by
          have h3 : b ^ (k + 1) ≤ b ^ v := pow_more hb1 (by omega)
          rw [pow_step, ← HX.out.1, ← HY.out] at h3
          omega
        have HL := Lib.hid hlarge
        have hgi : (1000000000 : Int) < (y : Int) := by omega
        clear hlarge
        go_wp2_with fail
        go_ret
        exact ⟨ret_int (by rw [powI_gt HL.out]), rfl⟩
      · have hgi : ¬ (1000000000 : Int) < (y : Int) := by omega
        by_cases h1 : b = 1
        · have hr : powI b v = 1 := by rw [h1, powI_le (by simp)]; simp
          have HR := Lib.hid hr
          have h2 : (b : Int) < 2 := by omega
          have h3 : (b : Int) = 1 := by omega
          have H3 := Lib.hid h3
          clear hr h1 h3
          go_wp2_with fail
          go_ret
          exact ⟨ret_int (by rw [HR.out]; exact H3.out), rfl⟩
        · have h2 : ¬ (b : Int) < 2 := by omega
          go_wp2_with fail
          go_round
          case rel => exact ⟨k + 1, y, by omega, by omega, Lib.hid ⟨by rw [pow_step, HY.out, HX.out.1], fun h => absurd h h1⟩, by go_num, by go_num⟩
          case measure => simp [intOf]; omega
    · obtain rfl : k = v := by omega
      have HR := Lib.hid (show powI b k = (x : Int) by rw [powI_le (by rw [← HX.out.1]; exact hx), ← HX.out.1])
      go_wp2_with fail
      go_ret
      exact ⟨ret_int HR.out.symm, rfl⟩
set_option maxHeartbeats 2000000 in
theorem l3Value_any (v : Nat) (hv1 : 1 ≤ v) (hv2 : v ≤ 99) (N : Nat) : ∀ (b off n cap : Nat) (t : T) (w : World), t.body.length < N → n = t.enc.length → n ≤ 60 → n ≤ cap → cap ≤ maxLen → At w b off t.enc → t.Nf →
    Calls Try.prog 40 #[.slice (some ⟨b, off, none⟩) n cap, .int .i64 v] w fun e w' => e = .returned (.int .i64 (T.slowI v t)) ∧ Below w.heap.size w w' := by
  induction N with
  | zero => intro b off n cap t w h; omega
  | succ N ih =>
    intro b off n cap t w hN hn hb hc hm hat hnf
    have IH := Lib.hid ih
    have HA := Lib.hid hat
    have Hn := Lib.hid hn
    have HN := Lib.hid hN
    have HF := Lib.hid hnf
    have kt := Lib.hid (l1Terms_some b off n cap t.enc t w hn.symm (by omega) hc hm hat rfl)
    clear ih hN hn hat hnf
    go_enter Try.func40, Try.ntmps40
    go_wp2_with fail
    refine (kt.out).mono ?_
    rintro ee w1 ⟨g1, q1, g2, q2, es, rfl, ho1, ho2, hE, hb1⟩
    obtain ⟨cn, hcn⟩ : ∃ cn, cn = t.cnt := ⟨_, rfl⟩
    rw [← hcn] at ho1 ho2 ⊢
    have hcb : cn ≤ 60 := by have := T.cnt_le t; have := T.enc_len t; have := Hn.out; omega
    have hl1 : g1 < w1.heap.size := (ho1.lt g1 rfl).2
    have hl2 : g2 < w1.heap.size := (ho2.lt g2 rfl).2
    have Hcn := Lib.hid hcn
    have Hb1 := Lib.hid hb1
    have Ho1 := Lib.hid ho1
    have Ho2 := Lib.hid ho2
    have HE := Lib.hid (hE.below hb1)
    clear hcn hb1 ho1 ho2 hE
    go_wp2_with fail
    go_loopw [7, 8] (fun v3 v4 wr => ∃ (i s : Nat) (d u : T), i ≤ cn ∧ s ≤ 1000000000 ∧ Hid (d.app u = t ∧ d.cnt = i ∧ i + u.cnt = cn ∧ s = d.slow v) ∧ v4 = .int .i64 i ∧ v3 = .int .i64 s ∧ Below w1.heap.size w1 wr) (fun _ i _ => cn - (intOf i).toNat)
    case atStart => exact ⟨0, 0, .z, t, Nat.zero_le _, Nat.zero_le _, ⟨rfl, rfl, by have := Hcn.out; omega, rfl⟩, rfl, rfl, Below.refl _ _⟩
    case round =>
      obtain ⟨i, s, d, u, hi, hs, HU, rfl, rfl, hbr⟩ := hrel
      obtain ⟨h1, h2, h3, h4⟩ := HU.out
      have hsr := hbr.size
      by_cases hlt : i < cn
      · obtain ⟨x, e, r, rfl⟩ : ∃ x e r, u = .c x e r := T.cnt_pos (by omega)
        obtain ⟨be, oe, ce, p2, p3, p4, p5⟩ := HE.out.pick h1 h2
        have x1 : wr.cell? ⟨g1, i, none⟩ = some (.int .i64 x) := (hbr.cell (p := ⟨g1, i, none⟩) hl1).trans ((Ho1.out.cellAt i (by omega)).trans (by rw [List.getElem?_map, T.times_pick h1 h2]; rfl))
        have x2 : wr.cell? ⟨g2, i, none⟩ = some (.slice (some ⟨be, oe, none⟩) e.enc.length ce) := (hbr.cell (p := ⟨g2, i, none⟩) hl2).trans ((Ho2.out.cellAt i (by omega)).trans p2)
        have hpl := T.part_len h1
        obtain ⟨z1, z2, z3⟩ := T.part_nf h1 HF.out
        have hatr : At wr be oe e.enc := p3.below hbr (p3.lt (T.enc_ne e))
        have hl1' : g1 < wr.heap.size := Nat.lt_of_lt_of_le hl1 hsr
        have hel : e.enc.length ≤ 60 := by have := Hn.out; have := T.enc_len t; omega
        have kt2 := Lib.hid (IH.out be oe e.enc.length ce e wr (by have := HN.out; omega) rfl hel p4 p5 hatr z3)
        have hecn : e.cnt ≤ 60 := by have := T.cnt_le e; have := T.enc_len e; omega
        have HSP := Lib.hid (T.slow_part (b := v) h1)
        have Q3 := Lib.hid z3
        have Hbr := Lib.hid hbr
        have hi1 : ((i : Nat) : Int) < cn := by omega
        clear h1 h2 h3 h4 p2 p3 p4 p5 hatr hbr hpl hel z3
        by_cases hv : 1000000000 < e.slow v
        · have hbig : 1000000000 < t.slow v := by
            have h5 := T.slow_exp hv1 z1 Q3.out hecn hv
            simp only [T.slow, Nat.add_zero] at h5
            rw [HSP.out]
            exact Nat.lt_of_lt_of_le h5 (Nat.le_trans (Nat.le_add_right _ _) (Nat.le_add_left _ _))
          have HB := Lib.hid hbig
          rw [T.slowI_gt hv] at kt2
          clear hv hbig
          go_wp2_with fail
          refine (kt2.out).mono ?_
          rintro ee w2 ⟨rfl, hb2⟩
          have HB2 := Lib.hid (Hbr.out.trans (hb2.mono Hbr.out.size))
          clear hb2
          go_wp2_with fail
          go_ret
          exact ⟨ret_int (T.slowI_gt HB.out).symm, by have := Hb1.out.trans (HB2.out.mono Hb1.out.size); exact this⟩
        · have hpe : e.slow v ≤ 1000000000 := by omega
          obtain ⟨ev, hev⟩ : ∃ ev, ev = e.slow v := ⟨_, rfl⟩
          rw [T.slowI_le hpe, ← hev] at kt2
          rw [← hev] at hpe
          have Hev := Lib.hid hev
          have hev0 : ¬ ((ev : Int) < 0) := by omega
          clear hev hv
          by_cases hp : 1000000000 < v ^ ev
          · have hbig : 1000000000 < t.slow v := by
              have h8 : 0 < x.toNat := by omega
              have h7 : v ^ ev ≤ x.toNat * v ^ ev := Nat.le_mul_of_pos_left _ h8
              rw [HSP.out, ← Hev.out]
              exact Nat.lt_of_lt_of_le hp (Nat.le_trans h7 (Nat.le_trans (Nat.le_add_right _ _) (Nat.le_add_left _ _)))
            have HB := Lib.hid hbig
            have HP := Lib.hid hp
            clear hp hbig
            go_wp2_with fail
            refine (kt2.out).mono ?_
            rintro ee w2 ⟨rfl, hb2⟩
            have k4 := Lib.hid (l3Raise_any v ev w2 hv1 hv2 hpe)
            rw [powI_gt HP.out] at k4
            have HB2 := Lib.hid (Hbr.out.trans (hb2.mono Hbr.out.size))
            clear hb2
            go_wp2_with fail
            refine (k4.out).mono ?_
            rintro ee w3 ⟨rfl, rfl⟩
            go_wp2_with fail
            go_ret
            exact ⟨ret_int (T.slowI_gt HB.out).symm, by have := Hb1.out.trans (HB2.out.mono Hb1.out.size); exact this⟩
          · obtain ⟨P, hP⟩ : ∃ P, P = v ^ ev := ⟨_, rfl⟩
            have hp1 : P ≤ 1000000000 := by omega
            have HP := Lib.hid hP
            have hp0 : ¬ ((P : Int) < 0) := by omega
            obtain ⟨X, hX⟩ : ∃ X, X = x.toNat * P := ⟨_, rfl⟩
            have hXb : X ≤ 9999000000000 := by rw [hX]; exact Nat.mul_le_mul (show x.toNat ≤ 9999 by omega) hp1
            have hxP : x * (P : Int) = (X : Int) := by
              have h8 : x = ((x.toNat : Nat) : Int) := by omega
              conv => lhs; rw [h8]
              rw [hX]
              exact (Int.natCast_mul _ _).symm
            have HX := Lib.hid hX
            have hwm : wrap64 (x * (P : Int)) = (X : Int) := by rw [hxP]; exact wrap_in (by omega) (by omega)
            have HsX := Lib.hid (show t.slow v = s + (X + r.slow v) by rw [HSP.out, ← Hev.out, ← HP.out, ← hX, ← HU.out.2.2.2])
            by_cases hd : 1000000000 < s + X
            · have HB := Lib.hid (show 1000000000 < t.slow v by rw [HsX.out, ← Nat.add_assoc]; exact Nat.lt_of_lt_of_le hd (Nat.le_add_right _ _))
              have hgi : (1000000000 : Int) < (s : Int) + (X : Int) := by omega
              clear hp hd hP hX
              go_wp2_with fail
              refine (kt2.out).mono ?_
              rintro ee w2 ⟨rfl, hb2⟩
              have k4 := Lib.hid (l3Raise_any v ev w2 hv1 hv2 hpe)
              rw [powI_le (by rw [← HP.out]; exact hp1), ← HP.out] at k4
              have x1' := (hb2.cell (p := ⟨g1, i, none⟩) hl1').trans x1
              have HB2 := Lib.hid (Hbr.out.trans (hb2.mono Hbr.out.size))
              clear hb2
              go_wp2_with fail
              refine (k4.out).mono ?_
              rintro ee w3 ⟨rfl, rfl⟩
              go_wp2_with fail
              go_ret
              exact ⟨ret_int (T.slowI_gt HB.out).symm, by have := Hb1.out.trans (HB2.out.mono Hb1.out.size); exact this⟩
            · have hgi : ¬ (1000000000 : Int) < (s : Int) + (X : Int) := by omega
              clear hp hP hX
              go_wp2_with fail
              refine (kt2.out).mono ?_
              rintro ee w2 ⟨rfl, hb2⟩
              have k4 := Lib.hid (l3Raise_any v ev w2 hv1 hv2 hpe)
              rw [powI_le (by rw [← HP.out]; exact hp1), ← HP.out] at k4
              have x1' := (hb2.cell (p := ⟨g1, i, none⟩) hl1').trans x1
              have HB2 := Lib.hid (Hbr.out.trans (hb2.mono Hbr.out.size))
              clear hb2
              go_wp2_with fail
              refine (k4.out).mono ?_
              rintro ee w3 ⟨rfl, rfl⟩
              go_wp2_with fail
              go_roundw
              case rel =>
                obtain ⟨h1, h2, h3, h4⟩ := HU.out
                refine ⟨i + 1, s + X, d.app (.c x e .z), r, by omega, by omega, ⟨by rw [T.app_assoc]; exact h1, by rw [T.app_cnt, h2]; rfl, by simp only [T.cnt] at h3; omega, ?_⟩, by go_num, by go_num, HB2.out⟩
                rw [T.slow_app, ← h4, HX.out, HP.out, Hev.out]
                simp only [T.slow, Nat.add_zero]
              case measure => simp [intOf]; omega
      · have hu : u = .z := T.cnt_zero (by omega)
        subst hu
        have hdt : d = t := by rw [T.app_z] at h1; exact h1
        subst hdt
        have HR := Lib.hid (show T.slowI v d = (s : Int) by rw [T.slowI_le (by omega), h4])
        clear h1 h2 h3 h4
        go_wp2_with fail
        go_ret
        exact ⟨ret_int HR.out.symm, by have := Hb1.out.trans (hbr.mono Hb1.out.size); exact this⟩
end Go.Proofs.Ytfclhepmakhimaa
