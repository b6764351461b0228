/- Grow of the model. -/
import Derived.Test.YtbhifmjpaageeaaGrowM
import Derived.Test.YtbhifmjpaageeaaStepS
import Derived.Test.YtbhifmjpaageeaaStepsL
namespace Go.Proofs.Ytbhifmjpaageeaa
set_option maxRecDepth 100000
open Go.RowKit

def GPost (w : World) (r : List Int) (e : Ending) (w' : World) : Prop :=
  ∃ a c, e = .returned (.slice a r.length c) ∧ w'.ownsRow w.heap.size 3 1 (.slice a r.length c) r.length (ints r) ∧ Below w.heap.size w w'

def GrRel (R : Option (Nat × Nat)) (w : World) (v0 v1 v7 : Value) (wr : World) : Prop :=
  ∃ (s nn : Nat) (tm : T), s ≤ 3001 ∧ 1 ≤ nn ∧ nn ≤ 90 ∧ T.vldB tm.enc = true ∧ v7 = .int .i64 s ∧ v1 = .int .i64 nn ∧ (s ≤ 3000 → T.riseFrom R s (3000 - s) nn tm) ∧ (3001 ≤ s → R = none) ∧ Below w.heap.size w wr ∧
    ∃ bb off c, v0 = .slice (some ⟨bb, off, none⟩) tm.enc.length c ∧ tm.enc.length ≤ c ∧ c ≤ maxLen ∧ At wr bb off tm.enc

theorem T.riseFrom.go {R : Option (Nat × Nat)} {s n n' : Nat} {t : T} (h : T.riseFrom R s (3000 - s) n t) (ht : t ≠ .z) (hv : T.vldB (t.step n).enc = true) (hk : t.kind = 1 ∧ n < 90 ∧ n' = n + 1 ∨ t.kind ≠ 1 ∧ n' = n) (hs : s ≤ 3000) :
    (s + 1 ≤ 3000 → T.riseFrom R (s + 1) (3000 - (s + 1)) n' (t.step n)) ∧ (3001 ≤ s + 1 → R = none) := by
  constructor
  · intro h1
    obtain ⟨g, hg⟩ : ∃ g, 3000 - s = g + 1 := ⟨3000 - s - 1, by omega⟩
    rw [hg] at h
    rw [show 3000 - (s + 1) = g by omega]
    rcases hk with ⟨h2, h3, rfl⟩ | ⟨h2, rfl⟩
    · exact (h.next ht hv).1 h2 h3
    · exact (h.next ht hv).2 h2
  · intro h1
    exact h.bad ht (.inl (by omega))

/-- A row, as a slice. -/
theorem Sl.of_at' {w : World} {b off len cap : Nat} {t : T} (hl : len = t.enc.length) (hc : len ≤ cap) (hm : cap ≤ maxLen) (h : At w b off t.enc) : Sl w (some ⟨b, off, none⟩) len cap t.enc :=
  ⟨hl.symm, hc, hm, fun _ => ⟨b, off, rfl, h⟩⟩

set_option maxRecDepth 100000 in
set_option maxHeartbeats 4000000 in
theorem spec_Grow (ao : Option Addr) (len cap : Nat) (xs : List Int) (n : Int) (w : World) (h : Sl w ao len cap xs) (_hn0 : -9223372036854775808 ≤ n) (_hn1 : n ≤ 9223372036854775807) :
    Calls Try.prog 11 #[.slice ao len cap, .int .i64 n] w fun e w' => e = .returned (.tuple #[.int .i64 (T.growE xs n), .int .i64 (T.growS xs n)]) ∧ Below w.heap.size w w' := by
  unfold T.growE T.growS
  rcases vld_tf xs with h1 | h1
  · have k1 := Lib.hid (spec_valid ao len cap xs w h h1)
    by_cases hin : 1 ≤ n ∧ n ≤ 90
    · have ks := Lib.hid (fun w => l1In_yes n 1 90 w hin.1 hin.2)
      obtain ⟨b, off, t, rfl, rfl, hs, hos, hat, hn, hl, hp, hc, hm⟩ := h.valid h1
      obtain ⟨N, rfl⟩ : ∃ N : Nat, n = N := ⟨n.toNat, by omega⟩
      obtain ⟨R, hR⟩ : ∃ R, R = T.growP t.enc N := ⟨_, rfl⟩
      have hR2 := hR.trans (T.growP_val h1 (by omega) (by omega))
      rw [← hR]
      have HAT := Lib.hid hat
      have HN := Lib.hid hn
      have H1 := Lib.hid h1
      have HR := Lib.hid hR2
      clear h h1 hos hs hat hn _hn0 _hn1 hR hR2
      go_enter Try.func11, Try.ntmps11
      go_wp2_with fail
      refine (k1.out).mono ?_
      rintro ee w1 ⟨rfl, hb1⟩
      have hst : GrRel R w (.slice (some ⟨b, off, none⟩) len cap) (.int .i64 (N : Int)) (.int .i64 (0 : Nat)) w1 := by
        refine ⟨0, N, t, Nat.zero_le _, by omega, by omega, H1.out, rfl, rfl, fun _ => ?_, fun h => by omega, hb1, b, off, cap, ?_, ?_, hm, HAT.out.below hb1 (HAT.out.lt (T.enc_ne t))⟩
        · rw [HR.out]; exact T.riseFrom.start 3000 N t
        · rw [← HN.out]
        · rw [← HN.out]; exact hc
      have Hst := Lib.hid hst
      clear hb1 hst
      go_wp2_with fail
      refine (ks.out _).mono ?_
      rintro ee wx ⟨rfl, rfl⟩
      go_wp2_with fail
      go_loopw [0, 1, 6] (fun v0 v1 v7 wr => GrRel R w v0 v1 v7 wr) (fun _ _ v7 _ => 3001 - (intOf v7).toNat)
      case atStart => exact Hst.out
      case round =>
        obtain ⟨m, nn, tm, hm2, hn1, hn9, hvm, rfl, rfl, hrf, hno, hb, bb, off', c', rfl, hle, hcm', hata⟩ := hrel
        have Hrf := Lib.hid hrf
        have Hno := Lib.hid hno
        have HB := Lib.hid hb
        have HVM := Lib.hid hvm
        obtain ⟨ln, hln⟩ : ∃ ln, ln = tm.enc.length := ⟨_, rfl⟩
        rw [← hln] at hle ⊢
        have HLN := Lib.hid hln
        have hsl := Sl.of_at' (t := tm) hln hle hcm' hata
        have kk := Lib.hid (spec_OrdKind (some ⟨bb, off', none⟩) ln c' tm.enc wr hsl)
        rw [T.kindRow, if_pos hvm, T.of_enc] at kk
        have HSL := Lib.hid hsl
        clear hrf hno hb hata hvm hln hsl
        by_cases hlt : m ≤ 3000
        · by_cases hz : tm = .z
          · have hl1 : ln = 1 := by rw [HLN.out, hz]; rfl
            have hlb : ((ln : Int) == 1) = true := by rw [hl1]; rfl
            have HE := Lib.hid ((Hrf.out hlt).done hz)
            clear hz hl1
            go_wp2_with fail
            go_ret2
            exact ⟨by rw [HE.out]; rfl, HB.out⟩
          · have hlb : ((ln : Int) == 1) = false := by
              cases tm with
              | z => exact absurd rfl hz
              | c q f u =>
                have h1 := HLN.out
                rw [T.enc_len, T.body_c] at h1
                simp [T.enc] at h1 ⊢
                omega
            have HZ := Lib.hid hz
            obtain ⟨nr, hnr⟩ : ∃ nr, nr = T.stepRow tm.enc nn := ⟨_, rfl⟩
            obtain ⟨no, hno⟩ : ∃ no, no = T.stepOk tm.enc nn := ⟨_, rfl⟩
            have hv2 := T.stepRow_val HVM.out (show (0 : Int) ≤ nn by omega) (by omega)
            have Hnr := Lib.hid (hnr.trans hv2.1)
            have Hno1 := Lib.hid (hno.trans hv2.2)
            have Hnr0 := Lib.hid hnr
            have Hno0 := Lib.hid hno
            clear hz hnr hno hv2
            have ks2 := Lib.hid (fun w2 (hx : Below wr.heap.size wr w2) => spec_OrdStep (some ⟨bb, off', none⟩) ln c' tm.enc nn w2 (HSL.out.below hx) (by omega) (by omega))
            unfold OrdOkPost at ks2
            rw [← Hnr0.out, ← Hno0.out] at ks2
            by_cases hkd : tm.kind = 1
            · have hkb : (tm.kind == 1) = true := by rw [hkd]; rfl
              have HKD := Lib.hid hkd
              clear hkd
              go_wp2_with fail
              refine (kk.out).mono ?_
              rintro ee w2 ⟨rfl, hb2⟩
              have ks3 := Lib.hid (ks2.out w2 hb2)
              have Hb2 := Lib.hid (HB.out.trans (hb2.mono HB.out.size))
              clear hb2 ks2
              go_wp2_with fail
              refine (ks3.out).mono ?_
              rintro ee w3 ⟨a3, c3, rfl, ho3, hb3⟩
              have Hb3 := Lib.hid (Hb2.out.trans (hb3.mono Hb2.out.size))
              have Ho3 := Lib.hid ho3
              clear ho3 hb3
              cases hno2 : no with
              | false =>
                have HE := Lib.hid ((Hrf.out hlt).bad HZ.out (.inr (.inl (by rw [← Hno1.out, hno2]))))
                clear hno2
                go_wp2_with fail
                go_ret2
                exact ⟨by rw [HE.out]; rfl, Hb3.out⟩
              | true =>
                by_cases h90 : nn < 90
                · have hvn : T.vldB (tm.step nn).enc = true := by rw [← Hno1.out, hno2]
                  have hfe : nr = (tm.step nn).enc := by rw [Hnr.out, T.fit, if_pos hvn]
                  have ho3 := Ho3.out
                  rw [hfe] at ho3
                  obtain ⟨g2, rfl, hg2, hatn, hcn, hcmn⟩ := own_rowT ho3
                  have hnx := (Hrf.out hlt).go HZ.out hvn (n' := nn + 1) (.inl ⟨HKD.out, h90, rfl⟩) hlt
                  have hfin : GrRel R w (.slice (some ⟨g2, 0, none⟩) nr.length c3) (.int .i64 ((nn + 1 : Nat) : Int)) (.int .i64 ((m + 1 : Nat) : Int)) w3 :=
                    ⟨m + 1, nn + 1, tm.step nn, by omega, by omega, by omega, hvn, rfl, rfl, hnx.1, hnx.2, Hb3.out, g2, 0, c3, by rw [hfe], hcn, hcmn, hatn⟩
                  have Hfin := Lib.hid hfin
                  clear hno2 hvn hfe ho3 hatn hcn hcmn hfin hg2 hnx
                  go_wp2_with fail
                  go_roundw
                  case rel => have h := Hfin.out; simpa using h
                  case measure => simp [intOf]; omega
                · have HE := Lib.hid ((Hrf.out hlt).bad HZ.out (.inr (.inr ⟨HKD.out, by omega⟩)))
                  clear hno2
                  go_wp2_with fail
                  go_ret2
                  exact ⟨by rw [HE.out]; rfl, Hb3.out⟩
            · have hkb : (tm.kind == 1) = false := by simpa using hkd
              have HKD := Lib.hid hkd
              clear hkd
              go_wp2_with fail
              refine (kk.out).mono ?_
              rintro ee w2 ⟨rfl, hb2⟩
              have ks3 := Lib.hid (ks2.out w2 hb2)
              have Hb2 := Lib.hid (HB.out.trans (hb2.mono HB.out.size))
              clear hb2 ks2
              go_wp2_with fail
              refine (ks3.out).mono ?_
              rintro ee w3 ⟨a3, c3, rfl, ho3, hb3⟩
              have Hb3 := Lib.hid (Hb2.out.trans (hb3.mono Hb2.out.size))
              have Ho3 := Lib.hid ho3
              clear ho3 hb3
              cases hno2 : no with
              | false =>
                have HE := Lib.hid ((Hrf.out hlt).bad HZ.out (.inr (.inl (by rw [← Hno1.out, hno2]))))
                clear hno2
                go_wp2_with fail
                go_ret2
                exact ⟨by rw [HE.out]; rfl, Hb3.out⟩
              | true =>
                have hvn : T.vldB (tm.step nn).enc = true := by rw [← Hno1.out, hno2]
                have hfe : nr = (tm.step nn).enc := by rw [Hnr.out, T.fit, if_pos hvn]
                have ho3 := Ho3.out
                rw [hfe] at ho3
                obtain ⟨g2, rfl, hg2, hatn, hcn, hcmn⟩ := own_rowT ho3
                have hnx := (Hrf.out hlt).go HZ.out hvn (n' := nn) (.inr ⟨HKD.out, rfl⟩) hlt
                have hfin : GrRel R w (.slice (some ⟨g2, 0, none⟩) nr.length c3) (.int .i64 (nn : Int)) (.int .i64 ((m + 1 : Nat) : Int)) w3 :=
                  ⟨m + 1, nn, tm.step nn, by omega, by omega, by omega, hvn, rfl, rfl, hnx.1, hnx.2, Hb3.out, g2, 0, c3, by rw [hfe], hcn, hcmn, hatn⟩
                have Hfin := Lib.hid hfin
                clear hno2 hvn hfe ho3 hatn hcn hcmn hfin hg2 hnx
                go_wp2_with fail
                go_roundw
                case rel => have h := Hfin.out; simpa using h
                case measure => simp [intOf]; omega
        · have HE := Lib.hid (Hno.out (by omega))
          go_wp2_with fail
          go_ret2
          exact ⟨by rw [HE.out]; rfl, HB.out⟩
    · have ks := Lib.hid (fun w => l1In_no n 1 90 w (by omega))
      rw [T.growP_bad (xs := xs) (n := n) (.inr hin)]
      clear h h1 hin _hn0 _hn1
      go_enter Try.func11, Try.ntmps11
      go_wp2_with fail
      refine (k1.out).mono ?_
      rintro ee w1 ⟨rfl, hb1⟩
      have Hb1 := Lib.hid hb1
      clear hb1
      go_wp2_with fail
      refine (ks.out _).mono ?_
      rintro ee w2 ⟨rfl, rfl⟩
      go_wp2_with fail
      go_ret2
      exact ⟨rfl, Hb1.out⟩
  · have k1 := Lib.hid (spec_valid ao len cap xs w h h1)
    rw [T.growP_bad (xs := xs) (n := n) (.inl h1)]
    clear h h1 _hn0 _hn1
    go_enter Try.func11, Try.ntmps11
    go_wp2_with fail
    refine (k1.out).mono ?_
    rintro ee w1 ⟨rfl, hb1⟩
    have Hb1 := Lib.hid hb1
    clear hb1
    go_wp2_with fail
    go_ret2
    exact ⟨rfl, Hb1.out⟩
end Go.Proofs.Ytbhifmjpaageeaa
