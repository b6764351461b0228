/- StepsDown of the model. -/
import Derived.Test.YtdcaefgbpnjjaaaDownC
import Derived.Test.YtdcaefgbpnjjaaaStepS
import Derived.Test.YtdcaefgbpnjjaaaStepsL
namespace Go.Proofs.Ytdcaefgbpnjjaaa
open Go.RowKit

/-- A row, as a slice. -/
theorem Sl.of_at {w : World} {b off len cap : Nat} {t : T} (hl : len = t.enc.length) (hc : len ≤ cap) (hm : cap ≤ maxLen) (h : At w b off t.enc) : Sl w (some ⟨b, off, none⟩) len cap t.enc :=
  ⟨hl.symm, hc, hm, fun _ => ⟨b, off, rfl, h⟩⟩

def SdRel (v : Int) (t : T) (w : World) (m : Nat) (v0 v6 v7 : Value) (wr : World) : Prop :=
  m ≤ 3001 ∧ T.VU v t m ∧ T.NZ v t m ∧ v7 = .int .i64 m ∧ v6 = .int .i64 (T.ones v t m) ∧ Below w.heap.size w wr ∧
    ∃ bb off c, v0 = .slice (some ⟨bb, off, none⟩) (T.it v t m).enc.length c ∧ (T.it v t m).enc.length ≤ c ∧ c ≤ maxLen ∧ At wr bb off (T.it v t m).enc

set_option maxRecDepth 100000 in
set_option maxHeartbeats 4000000 in
theorem spec_StepsDown (ao : Option Addr) (len cap : Nat) (xs : List Int) (n : Int) (w : World) (h : Sl w ao len cap xs) (hn0 : -9223372036854775808 ≤ n) (hn1 : n ≤ 9223372036854775807) :
    Calls Try.prog 22 #[.slice ao len cap, .int .i64 n] w fun e w' => e = .returned (.tuple #[.int .i64 (T.downS xs n), .int .i64 (T.downO xs n)]) ∧ Below w.heap.size w w' := by
  rcases vld_tf xs with h1 | h1
  · have k1 := Lib.hid (spec_valid ao len cap xs w h h1)
    by_cases hin : 0 ≤ n ∧ n ≤ 99
    · have ks := Lib.hid (fun w => l1In_yes n 0 99 w hin.1 hin.2)
      obtain ⟨b, off, t, rfl, rfl, hs, hos, hat, hn, hl, hp, hc, hm⟩ := h.valid h1
      have HAT := Lib.hid hat
      have HN := Lib.hid hn
      have H1 := Lib.hid h1
      have hN0 := Lib.hid hn0
      have hN1 := Lib.hid hn1
      clear h h1 hos hs hat hn hn0 hn1
      go_enter Try.func22, Try.ntmps22
      go_wp2_with fail
      refine (k1.out).mono ?_
      rintro ee w1 ⟨rfl, hb1⟩
      have hst : SdRel n t w 0 (.slice (some ⟨b, off, none⟩) len cap) (.int .i64 (0 : Nat)) (.int .i64 (0 : Nat)) w1 := by
        refine ⟨Nat.zero_le _, fun j hj => ?_, fun j hj => by omega, rfl, rfl, hb1, b, off, cap, ?_, ?_, hm, HAT.out.below hb1 (HAT.out.lt (T.enc_ne t))⟩
        · obtain rfl : j = 0 := by omega
          exact H1.out
        · rw [show (T.it n t 0).enc.length = len from HN.out.symm]
        · rw [show (T.it n t 0).enc.length = len from HN.out.symm]; exact hc
      have Hst := Lib.hid hst
      clear hb1 hst
      go_wp2_with fail
      refine (ks.out _).mono ?_
      rintro ee wx ⟨rfl, rfl⟩
      go_wp2_with fail
      go_loopw [0, 6, 7] (fun v0 v6 v7 wr => ∃ m, SdRel n t w m v0 v6 v7 wr) (fun _ _ v7 _ => 3001 - (intOf v7).toNat)
      case atStart => exact ⟨0, Hst.out⟩
      case round =>
        obtain ⟨m, hm2, hvu, hnz, rfl, rfl, hb, bb, off', c', rfl, hle, hcm', hata⟩ := hrel
        obtain ⟨tm, htm⟩ : ∃ tm, tm = T.it n t m := ⟨_, rfl⟩
        have hvm := hvu m (Nat.le_refl _)
        rw [← htm] at hle hata hvm ⊢
        obtain ⟨on, hon⟩ : ∃ on, on = T.ones n t m := ⟨_, rfl⟩
        have hob : on ≤ 3001 := by rw [hon]; have := T.ones_le n t m; omega
        rw [← hon]
        have Hon := Lib.hid hon
        have Htm := Lib.hid htm
        have HVU := Lib.hid hvu
        have HNZ := Lib.hid hnz
        have HB := Lib.hid hb
        have HVM := Lib.hid hvm
        obtain ⟨ln, hln⟩ : ∃ ln, ln = tm.enc.length := ⟨_, rfl⟩
        rw [← hln] at hle ⊢
        have HLN := Lib.hid hln
        have hsl := Sl.of_at (t := tm) hln hle hcm' hata
        have kk := Lib.hid (spec_OrdKind (some ⟨bb, off', none⟩) ln c' tm.enc wr hsl)
        rw [T.kindRow, if_pos hvm, T.of_enc] at kk
        have HSL := Lib.hid hsl
        clear hon htm hvu hnz hb hata hvm hln hsl
        by_cases hlt : m ≤ 3000
        · by_cases hz : tm = .z
          · have hl1 : ln = 1 := by rw [HLN.out, hz]; rfl
            have hlb : ((ln : Int) == 1) = true := by rw [hl1]; rfl
            obtain ⟨e1, e2⟩ := T.downP_some H1.out hin (T.down_end HVU.out HNZ.out (by rw [← Htm.out]; exact hz) hlt)
            have E1 := Lib.hid e1
            have E2 := Lib.hid e2
            clear hz hl1 e1 e2
            go_wp2_with fail
            go_ret2
            exact ⟨by rw [E1.out, E2.out, Hon.out]; rfl, HB.out⟩
          · have hlb : ((ln : Int) == 1) = false := by
              cases tm with
              | z => exact absurd rfl hz
              | c q f u =>
                have h1 := HLN.out
                rw [T.enc_len, T.body_c] at h1
                simp [T.enc] at h1 ⊢
                omega
            have HZ := Lib.hid hz
            obtain ⟨nr, hnr⟩ : ∃ nr, nr = T.stepRow tm.enc n := ⟨_, rfl⟩
            obtain ⟨no, hno⟩ : ∃ no, no = T.stepOk tm.enc n := ⟨_, rfl⟩
            have hv2 := T.stepRow_val HVM.out hin.1 hin.2
            have Hnr := Lib.hid (hnr.trans hv2.1)
            have Hno := Lib.hid (hno.trans hv2.2)
            have Hnr0 := Lib.hid hnr
            have Hno0 := Lib.hid hno
            have HNX := Lib.hid (show T.it n t (m + 1) = tm.step n by rw [Htm.out]; rfl)
            have HNZ2 := Lib.hid (HNZ.out.snoc (by rw [← Htm.out]; exact hz))
            clear hz hnr hno hv2
            by_cases hkd : tm.kind = 1
            · have hkb : (tm.kind == 1) = true := by rw [hkd]; rfl
              have HKD := Lib.hid hkd
              clear hkd
              go_wp2_with fail
              refine (kk.out).mono ?_
              rintro ee w2 ⟨rfl, hb2⟩
              have ks2 := Lib.hid (spec_OrdStep (some ⟨bb, off', none⟩) ln c' tm.enc n w2 (HSL.out.below hb2) hN0.out hN1.out)
              unfold OrdOkPost at ks2
              rw [← Hnr0.out, ← Hno0.out] at ks2
              have Hb2 := Lib.hid (HB.out.trans (hb2.mono HB.out.size))
              clear hb2
              go_wp2_with fail
              refine (ks2.out).mono ?_
              rintro ee w3 ⟨a3, c3, rfl, ho3, hb3⟩
              have Hb3 := Lib.hid (Hb2.out.trans (hb3.mono Hb2.out.size))
              have Ho3 := Lib.hid ho3
              clear ho3 hb3
              cases hno2 : no with
              | false =>
                have hbad : T.down n 3000 t = none := by
                  have hv : T.vldB (T.it n t (m + 1)).enc = false := by rw [HNX.out, ← Hno.out, hno2]
                  rcases Nat.lt_or_ge m 3000 with h | h
                  · exact T.down_bad (m := m) HNZ2.out hv (by omega)
                  · exact T.down_long (m := 3000) (fun j hj => HNZ2.out j (by omega)) (HNZ2.out 3000 (by omega))
                obtain ⟨e1, e2⟩ := T.downP_none hbad
                have E1 := Lib.hid e1
                have E2 := Lib.hid e2
                clear hno2 hbad e1 e2
                go_wp2_with fail
                go_ret2
                exact ⟨by rw [E1.out, E2.out]; rfl, Hb3.out⟩
              | true =>
                have hvn : T.vldB (tm.step n).enc = true := by rw [← Hno.out, hno2]
                have hfe : nr = (tm.step n).enc := by rw [Hnr.out, T.fit, if_pos hvn]
                have ho3 := Ho3.out
                rw [hfe] at ho3
                obtain ⟨g2, rfl, hg2, hatn, hcn, hcmn⟩ := own_rowT ho3
                have hfin : SdRel n t w (m + 1) (.slice (some ⟨g2, 0, none⟩) nr.length c3) (.int .i64 ((on + 1 : Nat) : Int)) (.int .i64 ((m + 1 : Nat) : Int)) w3 := by
                  refine ⟨by omega, HVU.out.snoc (by rw [HNX.out]; exact hvn), HNZ2.out, rfl, ?_, Hb3.out, g2, 0, c3, by rw [HNX.out, hfe], by rw [HNX.out]; exact hcn, hcmn, by rw [HNX.out]; exact hatn⟩
                  rw [T.ones, if_pos (by rw [← Htm.out]; exact HKD.out), ← Hon.out]
                have Hfin := Lib.hid hfin
                clear hno2 hvn hfe ho3 hatn hcn hcmn hfin hg2
                go_wp2_with fail
                go_roundw
                case rel => exact ⟨m + 1, by have h := Hfin.out; simpa using h⟩
                case measure => simp [intOf]; omega
            · have hkb : (tm.kind == 1) = false := by simpa using hkd
              have HKD := Lib.hid hkd
              clear hkd
              go_wp2_with fail
              refine (kk.out).mono ?_
              rintro ee w2 ⟨rfl, hb2⟩
              have ks2 := Lib.hid (spec_OrdStep (some ⟨bb, off', none⟩) ln c' tm.enc n w2 (HSL.out.below hb2) hN0.out hN1.out)
              unfold OrdOkPost at ks2
              rw [← Hnr0.out, ← Hno0.out] at ks2
              have Hb2 := Lib.hid (HB.out.trans (hb2.mono HB.out.size))
              clear hb2
              go_wp2_with fail
              refine (ks2.out).mono ?_
              rintro ee w3 ⟨a3, c3, rfl, ho3, hb3⟩
              have Hb3 := Lib.hid (Hb2.out.trans (hb3.mono Hb2.out.size))
              have Ho3 := Lib.hid ho3
              clear ho3 hb3
              cases hno2 : no with
              | false =>
                have hbad : T.down n 3000 t = none := by
                  have hv : T.vldB (T.it n t (m + 1)).enc = false := by rw [HNX.out, ← Hno.out, hno2]
                  rcases Nat.lt_or_ge m 3000 with h | h
                  · exact T.down_bad (m := m) HNZ2.out hv (by omega)
                  · exact T.down_long (m := 3000) (fun j hj => HNZ2.out j (by omega)) (HNZ2.out 3000 (by omega))
                obtain ⟨e1, e2⟩ := T.downP_none hbad
                have E1 := Lib.hid e1
                have E2 := Lib.hid e2
                clear hno2 hbad e1 e2
                go_wp2_with fail
                go_ret2
                exact ⟨by rw [E1.out, E2.out]; rfl, Hb3.out⟩
              | true =>
                have hvn : T.vldB (tm.step n).enc = true := by rw [← Hno.out, hno2]
                have hfe : nr = (tm.step n).enc := by rw [Hnr.out, T.fit, if_pos hvn]
                have ho3 := Ho3.out
                rw [hfe] at ho3
                obtain ⟨g2, rfl, hg2, hatn, hcn, hcmn⟩ := own_rowT ho3
                have hfin : SdRel n t w (m + 1) (.slice (some ⟨g2, 0, none⟩) nr.length c3) (.int .i64 ((on : Nat) : Int)) (.int .i64 ((m + 1 : Nat) : Int)) w3 := by
                  refine ⟨by omega, HVU.out.snoc (by rw [HNX.out]; exact hvn), HNZ2.out, rfl, ?_, Hb3.out, g2, 0, c3, by rw [HNX.out, hfe], by rw [HNX.out]; exact hcn, hcmn, by rw [HNX.out]; exact hatn⟩
                  rw [T.ones, if_neg (by rw [← Htm.out]; exact HKD.out), ← Hon.out]; rfl
                have Hfin := Lib.hid hfin
                clear hno2 hvn hfe ho3 hatn hcn hcmn hfin hg2
                go_wp2_with fail
                go_roundw
                case rel => exact ⟨m + 1, by have h := Hfin.out; simpa using h⟩
                case measure => simp [intOf]; omega
        · have hm3 : m = 3001 := by omega
          obtain ⟨e1, e2⟩ := T.downP_none (t := t) (n := n) (T.down_long (m := 3000) (fun j hj => HNZ.out j (by omega)) (HNZ.out 3000 (by omega)))
          have E1 := Lib.hid e1
          have E2 := Lib.hid e2
          clear e1 e2
          go_wp2_with fail
          go_ret2
          exact ⟨by rw [E1.out, E2.out]; rfl, HB.out⟩
    · have ks := Lib.hid (fun w => l1In_no n 0 99 w (by omega))
      obtain ⟨e1, e2⟩ := T.downP_bad (xs := xs) (n := n) (.inr hin)
      rw [e1, e2]
      clear h h1 hin hn0 hn1 e1 e2
      go_enter Try.func22, Try.ntmps22
      go_wp2_with fail
      refine (k1.out).mono ?_
      rintro ee w1 ⟨rfl, hb1⟩
      have Hb1 := Lib.hid hb1
      clear hb1
      go_wp2_with fail
      refine (ks.out _).mono ?_
      rintro ee w2 ⟨rfl, rfl⟩
      go_wp2_with fail
      go_ret2
      exact ⟨rfl, Hb1.out⟩
  · have k1 := Lib.hid (spec_valid ao len cap xs w h h1)
    obtain ⟨e1, e2⟩ := T.downP_bad (xs := xs) (n := n) (.inl h1)
    rw [e1, e2]
    clear h h1 hn0 hn1 e1 e2
    go_enter Try.func22, Try.ntmps22
    go_wp2_with fail
    refine (k1.out).mono ?_
    rintro ee w1 ⟨rfl, hb1⟩
    have Hb1 := Lib.hid hb1
    clear hb1
    go_wp2_with fail
    go_ret2
    exact ⟨rfl, Hb1.out⟩
end Go.Proofs.Ytdcaefgbpnjjaaa
