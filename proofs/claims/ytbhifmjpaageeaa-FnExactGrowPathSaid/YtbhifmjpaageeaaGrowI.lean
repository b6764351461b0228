/- Grow and GrowPath of the program: the climb along an ordinal. -/
import Derived.Test.YtbhifmjpaageeaaGrowM
import Derived.Test.YtbhifmjpaageeaaGrowS
import Derived.Test.YtbhifmjpaageeaaIterI
import Derived.Maps.AppendAt
import Derived.OwnWalk
namespace Go.Proofs.Ytbhifmjpaageeaa
set_option maxRecDepth 100000
open Go.RowKit

attribute [local go_sem] run_store_func

attribute [local go_sem] run_field_growth
theorem unchanged1_any (n : Nat) (w : World) :
    Calls Try.prog 73 #[.int .i64 n] w fun e w' => e = .returned (.int .i64 n) ∧ w = w' := by
  go_enter Try.func73, Try.ntmps73
  go_wp2
  go_ret
  exact ⟨rfl, rfl⟩
theorem unchanged_any (w : World) :
    Calls Try.prog 68 #[] w fun e w' => e = .returned (.agg #[.func (.func 73) #[] #[]]) ∧ Below w.heap.size w w' := by
  have hb : Below w.heap.size w (w.alloc (.cells #[.func (.func 73) #[] #[]] 45)) := (Below.refl _ _).alloc (Nat.le_refl _) _
  have z3 := (Boxed.new w 45 (.func (.func 73) #[] #[])).cell
  go_enter Try.func68, Try.ntmps68
  go_wp2
  exact bodyPost_ret (v := .agg #[.func (.func 73) #[] #[]]) (by simp [results, Try.f68, go_sem, z3]) rfl ⟨rfl, hb⟩
theorem oneMore1_yes (n : Nat) (w : World) (h : n < 90) :
    Calls Try.prog 69 #[.int .i64 n] w fun e w' => e = .returned (.int .i64 ((n + 1 : Nat) : Int)) ∧ w = w' := by
  have h1 := oneMore1_any n w (by omega)
  rw [show T.optI (T.iter 0 n) = ((n + 1 : Nat) : Int) by simp only [T.iter]; rw [if_pos h]; rfl] at h1
  exact h1
theorem oneMore1_no (n : Nat) (w : World) (h : n ≤ 90) (h' : 90 ≤ n) :
    Calls Try.prog 69 #[.int .i64 n] w fun e w' => e = .returned (.int .i64 (-1)) ∧ w = w' := by
  have h1 := oneMore1_any n w h
  rw [show T.optI (T.iter 0 n) = -1 by simp only [T.iter]; rw [if_neg (by omega)]; rfl] at h1
  exact h1

set_option maxHeartbeats 4000000 in
theorem growthAt_any (b off n cap : Nat) (t : T) (w : World) (hn : n = t.enc.length) (hb : n ≤ 1000000000000) (hc : n ≤ cap) (hm : cap ≤ maxLen) (hat : At w b off t.enc) :
    Calls Try.prog 57 #[.slice (some ⟨b, off, none⟩) n cap] w fun e w' => e = .returned (.agg #[.func (.func (if t.kind = 1 then 69 else 73)) #[] #[]]) ∧ Below w.heap.size w w' := by
  have kk := Lib.hid (fun wx (hx : Below w.heap.size w wx) => kindOf_any b off n cap t wx hn hb hc hm (hat.below hx (hat.lt (T.enc_ne t))))
  have k1 := Lib.hid (fun w => oneMore_any w)
  have k2 := Lib.hid (fun w => unchanged_any w)
  have h0 := Boxed.new w 45 .nilFunc
  have Hba := Lib.hid (show Below w.heap.size w (w.alloc (.cells #[.nilFunc] 45)) from (Below.refl _ _).alloc (Nat.le_refl _) _)
  have H0 := Lib.hid h0
  obtain ⟨kd, hkd⟩ : ∃ kd, kd = t.kind := ⟨_, rfl⟩
  rw [← hkd] at kk ⊢
  clear hn hb hc hm hat h0 hkd
  by_cases hk : kd = 1
  · have hkb : (kd == 1) = true := by rw [hk]; rfl
    rw [if_pos hk]
    clear hk
    go_enter Try.func57, Try.ntmps57
    go_wp2_with fail
    refine (kk.out _ Hba.out).mono ?_
    rintro ee w1 ⟨rfl, hb1⟩
    have Hb1 := Lib.hid (Hba.out.trans (hb1.mono Hba.out.size))
    have Hx1 := Lib.hid (show Boxed w1 w.heap.size 45 .nilFunc from (hb1.block _ (by simp)).trans H0.out)
    clear hb1
    go_wp2_with fail
    refine (k1.out _).mono ?_
    rintro ee w2 ⟨rfl, hb2⟩
    have hx2 : Boxed w2 w.heap.size 45 .nilFunc := (hb2.block _ Hx1.out.lt).trans Hx1.out
    have z1 := hx2.cell
    have z2 := hx2.frozen
    have z3 := (hx2.set (.func (.func 69) #[] #[])).cell
    have Hb2 := Lib.hid ((Hb1.out.trans (hb2.mono Hb1.out.size)).setCell (p := ⟨w.heap.size, 0, none⟩) (Nat.le_refl _) (.func (.func 69) #[] #[]))
    clear hb2 hx2
    go_wp2_with fail
    exact bodyPost_ret (v := .agg #[.func (.func 69) #[] #[]]) (by simp [results, Try.f57, go_sem, z3]) rfl ⟨rfl, Hb2.out⟩
  · have hkb : (kd == 1) = false := by simpa using hk
    rw [if_neg hk]
    clear hk
    go_enter Try.func57, Try.ntmps57
    go_wp2_with fail
    refine (kk.out _ Hba.out).mono ?_
    rintro ee w1 ⟨rfl, hb1⟩
    have Hb1 := Lib.hid (Hba.out.trans (hb1.mono Hba.out.size))
    have Hx1 := Lib.hid (show Boxed w1 w.heap.size 45 .nilFunc from (hb1.block _ (by simp)).trans H0.out)
    clear hb1
    go_wp2_with fail
    refine (k2.out _).mono ?_
    rintro ee w2 ⟨rfl, hb2⟩
    have hx2 : Boxed w2 w.heap.size 45 .nilFunc := (hb2.block _ Hx1.out.lt).trans Hx1.out
    have z1 := hx2.cell
    have z2 := hx2.frozen
    have z3 := (hx2.set (.func (.func 73) #[] #[])).cell
    have Hb2 := Lib.hid ((Hb1.out.trans (hb2.mono Hb1.out.size)).setCell (p := ⟨w.heap.size, 0, none⟩) (Nat.le_refl _) (.func (.func 73) #[] #[]))
    clear hb2 hx2
    go_wp2_with fail
    exact bodyPost_ret (v := .agg #[.func (.func 73) #[] #[]]) (by simp [results, Try.f57, go_sem, z3]) rfl ⟨rfl, Hb2.out⟩

def ClRel (R : Option (Nat × Nat)) (n0 : Nat) (w : World) (v0 v1 v7 v8 : Value) (wr : World) : Prop :=
  ∃ (s nn : Nat) (tm : T), s ≤ 3000 ∧ n0 ≤ nn ∧ nn ≤ 90 ∧ T.vldB tm.enc = true ∧ v8 = .int .i64 s ∧ v1 = .int .i64 nn ∧ T.riseFrom R s (3000 - s) nn tm ∧ Below w.heap.size w wr ∧
    ∃ g c, v7 = .slice (some ⟨g, 0, none⟩) (nn + 1 - n0) c ∧ wr.ownsRow w.heap.size 3 1 (.slice (some ⟨g, 0, none⟩) (nn + 1 - n0) c) (nn + 1 - n0) (ints (T.up n0 (nn + 1 - n0))) ∧
    ∃ bb off c', v0 = .slice (some ⟨bb, off, none⟩) tm.enc.length c' ∧ tm.enc.length ≤ c' ∧ c' ≤ maxLen ∧ At wr bb off tm.enc ∧ g ≠ bb

def ClPost (w : World) (n0 : Nat) (R : Option (Nat × Nat)) (e : Ending) (w' : World) : Prop :=
  (R = none ∧ e = .returned (.tuple #[.slice none 0 0, .int .i64 0, .bool false]) ∧ Below w.heap.size w w') ∨
  ∃ (m s : Nat) (a : Option Addr) (c : Nat), R = some (m, s) ∧ n0 ≤ m ∧ m ≤ 90 ∧ e = .returned (.tuple #[.slice a (m + 1 - n0) c, .int .i64 s, .bool true]) ∧
    w'.ownsRow w.heap.size 3 1 (.slice a (m + 1 - n0) c) (m + 1 - n0) (ints (T.up n0 (m + 1 - n0))) ∧ Below w.heap.size w w'

theorem At.past {w w' : World} {b off : Nat} {xs : List Int} {row : Option Nat} (h : At w b off xs) (hg : w.grownBy w' row) (hne : some b ≠ row) : At w' b off xs :=
  fun j hj => hg.cell (h j hj) hne

theorem up_one (n : Nat) : T.up n (n + 1 - n) = [(n : Int)] := by
  rw [show n + 1 - n = 1 by omega]
  simp [T.up]

set_option maxRecDepth 100000 in
set_option maxHeartbeats 8000000 in
theorem climb_any (ao : Option Addr) (len cap : Nat) (xs : List Int) (n : Int) (w : World) (h : Sl w ao len cap xs) (_hn0 : -9223372036854775808 ≤ n) (_hn1 : n ≤ 9223372036854775807) :
    Calls Try.prog 34 #[.slice ao len cap, .int .i64 n] w (ClPost w n.toNat (T.growP xs n)) := by
  have ks := Lib.hid (isGrowing_any n)
  rcases vld_tf xs with h1 | h1
  · have k1 := Lib.hid (impl_valid ao len cap xs w h h1)
    by_cases hin : 1 ≤ n ∧ n ≤ 90
    · rw [decide_eq_true hin] at ks
      obtain ⟨b, off, t, rfl, rfl, hs, hos, hat, hn, hl, hp, hc, hm⟩ := h.valid h1
      obtain ⟨N, rfl⟩ : ∃ N : Nat, n = N := ⟨n.toNat, by omega⟩
      obtain ⟨i0, hi, hz0, hz1, hz2⟩ := info_parts info_int
      obtain ⟨R, hR⟩ : ∃ R, R = T.growP t.enc N := ⟨_, rfl⟩
      have hR2 := hR.trans (T.growP_val h1 (by omega) (by omega))
      rw [← hR, Int.toNat_natCast]
      have HAT := Lib.hid hat
      have HN := Lib.hid hn
      have H1 := Lib.hid h1
      have HR := Lib.hid hR2
      have hN1 : 1 ≤ N := by omega
      have hN9 : N ≤ 90 := by omega
      clear h h1 hos hs hat hn _hn0 _hn1 hR hR2 hin
      go_enter Try.func34, Try.ntmps34
      go_wp2_with fail
      refine (k1.out).mono ?_
      rintro ee w1 ⟨rfl, hb1⟩
      have hs1 := hb1.size
      have hbl := HAT.out.lt (T.enc_ne t)
      have hst : ClRel R N w (.slice (some ⟨b, off, none⟩) len cap) (.int .i64 (N : Int)) (.slice (some ⟨w1.heap.size, 0, none⟩) 1 1) (.int .i64 (0 : Nat)) (w1.alloc (.cells #[.int .i64 N] 3)) := by
        refine ⟨0, N, t, Nat.zero_le _, Nat.le_refl _, hN9, H1.out, rfl, rfl, ?_, hb1.alloc hs1 _, w1.heap.size, 1, ?_, ?_, b, off, cap, ?_, ?_, hm, (HAT.out.below hb1 hbl).alloc (T.enc_ne t) _, by omega⟩
        · rw [HR.out]; exact T.riseFrom.start 3000 N t
        · rw [show N + 1 - N = 1 by omega]
        · rw [up_one, show N + 1 - N = 1 by omega]
          exact World.ownsRow_lit w1 _ 1 hs1 (by simp [maxLen]) rfl
        · rw [← HN.out]
        · rw [← HN.out]; exact hc
      have Hst := Lib.hid hst
      clear hb1 hst
      go_wp2_with fail
      refine (ks.out _).mono ?_
      rintro ee wx ⟨rfl, rfl⟩
      go_wp2_with fail
      go_loopw [0, 1, 7, 8] (fun v0 v1 v7 v8 wr => ClRel R N w v0 v1 v7 v8 wr) (fun _ _ _ v8 _ => 3000 - (intOf v8).toNat)
      case atStart => exact Hst.out
      case round =>
        obtain ⟨m, nn, tm, hm2, hn0, hn9, hvm, rfl, rfl, hrf, hb, g, c, rfl, ho, bb, off', c', rfl, hle, hcm', hata, hne⟩ := hrel
        have Hrf := Lib.hid hrf
        have HB := Lib.hid hb
        have HVM := Lib.hid hvm
        have HO := Lib.hid ho
        have HNE := Lib.hid hne
        have HATA := Lib.hid hata
        obtain ⟨ln, hln⟩ : ∃ ln, ln = tm.enc.length := ⟨_, rfl⟩
        rw [← hln] at hle ⊢
        have HLN := Lib.hid hln
        have hbbl := hata.lt (T.enc_ne tm)
        have hl60 : ln ≤ 60 := by rw [hln]; exact (T.vldB_true.1 hvm).1
        have kz := Lib.hid (fun wx (hx : At wx bb off' tm.enc) => isZero_any bb off' ln c' (tm.cnt : Int) wx (by rw [hln, T.enc_len]; omega) hx.head)
        clear hrf hb hvm ho hne hata hln
        by_cases htz : tm.cnt = 0
        · have hzb : ((tm.cnt : Int) == 0) = true := by rw [htz]; rfl
          have HE := Lib.hid (Hrf.out.done (T.cnt_zero htz))
          rw [hzb] at kz
          clear htz hzb
          go_wp2_with fail
          refine (kz.out _ HATA.out).mono ?_
          rintro ee wx ⟨rfl, rfl⟩
          go_wp2_with fail
          refine (kz.out _ HATA.out).mono ?_
          rintro ee wx ⟨rfl, rfl⟩
          go_wp2_with fail
          go_ret3
          exact .inr ⟨nn, m, _, c, HE.out, hn0, hn9, rfl, HO.out, HB.out⟩
        · have hzb : ((tm.cnt : Int) == 0) = false := by simpa using htz
          have hz : tm ≠ .z := fun h => htz (by rw [h]; rfl)
          have HZ := Lib.hid hz
          rw [hzb] at kz
          clear htz hzb hz
          by_cases hlt : m < 3000
          · have hlt2 : (m : Int) < 3000 := by omega
            have kg := Lib.hid (fun wx (hx : Below wr.heap.size wr wx) => growthAt_any bb off' ln c' tm wx HLN.out (by omega) hle hcm' (HATA.out.below hx hbbl))
            have kd := Lib.hid (fun wx (hx : Below wr.heap.size wr wx) => stepDown_any (nn : Int) (by omega) (by omega) bb off' ln c' tm wx HLN.out hl60 hle hcm' (HATA.out.below hx hbbl) (T.nf_enc HVM.out))
            obtain ⟨nr, hnr⟩ : ∃ nr, nr = T.fit (tm.step nn) := ⟨_, rfl⟩
            obtain ⟨no, hno⟩ : ∃ no, no = T.vldB (tm.step nn).enc := ⟨_, rfl⟩
            unfold OrdOkPost at kd
            rw [← hnr, ← hno] at kd
            have Hnr := Lib.hid hnr
            have Hno := Lib.hid hno
            have hgl : g < wr.heap.size := (HO.out.lt g rfl).2
            have hws := HB.out.size
            clear hnr hno
            by_cases hkd : tm.kind = 1
            · simp only [if_pos hkd] at kg
              have HKD := Lib.hid hkd
              clear hkd
              by_cases h90 : nn < 90
              · have ko := Lib.hid (fun w => oneMore1_yes nn w h90)
                have hgt : ((nn : Int) : Int) < ((nn + 1 : Nat) : Int) := by omega
                go_wp2_with fail
                refine (kz.out _ HATA.out).mono ?_
                rintro ee wx ⟨rfl, rfl⟩
                go_wp2_with fail
                refine (kg.out _ (Below.refl _ _)).mono ?_
                rintro ee w2 ⟨rfl, hb2⟩
                have Hb2 := Lib.hid hb2
                have hs2 := hb2.size
                have kd2 := Lib.hid (kd.out w2 hb2)
                clear hb2
                go_wp2_with fail
                refine (ko.out w2).mono ?_
                rintro ee wx ⟨rfl, rfl⟩
                go_wp2_with fail
                refine (kd2.out).mono ?_
                rintro ee w3 ⟨a3, c3, rfl, ho3, hb3⟩
                have Hb3 := Lib.hid ((HB.out.trans (Hb2.out.mono hws)).trans (hb3.mono (by omega)))
                have Ho3 := Lib.hid ho3
                have HoP := Lib.hid (ownsRow_below' (ownsRow_below' HO.out Hb2.out) hb3)
                have hs3 := hb3.size
                clear ho3 hb3
                cases hno2 : no with
                | false =>
                  have HE := Lib.hid (Hrf.out.bad HZ.out (.inr (.inl (by rw [← Hno.out, hno2]))))
                  clear hno2
                  go_wp2_with fail
                  go_ret3
                  exact .inl ⟨HE.out, rfl, Hb3.out⟩
                | true =>
                  have hvn : T.vldB (tm.step nn).enc = true := by rw [← Hno.out, hno2]
                  have hfe : nr = (tm.step nn).enc := by rw [Hnr.out, T.fit, if_pos hvn]
                  have ho3 := Ho3.out
                  rw [hfe] at ho3
                  obtain ⟨g2, rfl, hg2, hatn, hcn, hcmn⟩ := own_rowT ho3
                  obtain ⟨gq, hgq⟩ : ∃ gq, 3000 - m = gq + 1 := ⟨3000 - m - 1, by omega⟩
                  have hrf := Hrf.out
                  rw [hgq] at hrf
                  have hnx := (hrf.next HZ.out hvn).1 HKD.out h90
                  rw [show gq = 3000 - (m + 1) by omega] at hnx
                  have Hnx := Lib.hid hnx
                  have Hvn := Lib.hid hvn
                  have Hfe := Lib.hid hfe
                  have Hat := Lib.hid hatn
                  have Hcn := Lib.hid hcn
                  clear hno2 hvn hfe ho3 hatn hcn hnx hrf hgq
                  go_wp2_with (first
                    | (at_builtin; refine wpList_append_own_at _ rfl (.tmp 51) (.tmp 53) 22 rfl w.heap.size 3 i0 (.int .i64 0) 1 8 Try.underlying22 hi hz0 hz1 hz2 rfl (by decide) _ (nn + 1 - N) (ints (T.up N (nn + 1 - N))) rfl (HoP.out.alloc _) ⟨w3.heap.size, 0, none⟩ 1 1 [.int .i64 ((nn + 1 : Nat) : Int)] rfl rfl (cell_one_new _ _ _) (ints_oneCell _ [((nn + 1 : Nat) : Int)]) (by unfold maxLen; omega) (by omega) (by simp; omega) ?_; intro v7 w4 ho4 hg4 _ hob4))
                  obtain ⟨g7, c7, rfl⟩ := Joins.ownsRow_form ho4 (by omega)
                  have hg2l := Hat.out.lt (T.enc_ne _)
                  have hb4 : Below w.heap.size w w4 := (Hb3.out.alloc (by omega) _).grown hg4 (by simp; omega) (fun k e => by cases e; exact (HO.out.lt g rfl).1)
                  have hfin : ClRel R N w (.slice (some ⟨g2, 0, none⟩) nr.length c3) (.int .i64 ((nn + 1 : Nat) : Int)) (.slice (some ⟨g7, 0, none⟩) (nn + 1 - N + 1) c7) (.int .i64 ((m + 1 : Nat) : Int)) w4 := by
                    refine ⟨m + 1, nn + 1, tm.step nn, by omega, by omega, by omega, Hvn.out, rfl, rfl, Hnx.out, hb4, g7, c7, ?_, ?_, g2, 0, c3, by rw [Hfe.out], Hcn.out, hcmn, (Hat.out.alloc (T.enc_ne _) _).past hg4 (fun e => by have h8 : g2 = g := Option.some.inj e; omega), ?_⟩
                    · rw [show nn + 1 + 1 - N = nn + 1 - N + 1 by omega]
                    · rw [show nn + 1 + 1 - N = nn + 1 - N + 1 by omega, ← T.up_snoc, show N + (nn + 1 - N) = nn + 1 by omega]
                      simpa [ints] using ho4
                    · rcases hob4 with h9 | h9
                      · have h8 : g7 = g := Option.some.inj h9
                        omega
                      · have h8 : g7 = (w3.alloc (.cells #[.int .i64 ((nn + 1 : Nat) : Int)] 3)).heap.size := Option.some.inj h9
                        rw [World.size_alloc] at h8
                        omega
                  have Hfin := Lib.hid hfin
                  clear hfin hb4 ho4 hg4 hob4
                  go_wp2_with fail
                  go_roundw
                  case rel => have h := Hfin.out; simpa using h
                  case measure => simp [intOf]; omega
              · have ko := Lib.hid (fun w => oneMore1_no nn w hn9 (by omega))
                have HE := Lib.hid (Hrf.out.bad HZ.out (.inr (.inr ⟨HKD.out, by omega⟩)))
                go_wp2_with fail
                refine (kz.out _ HATA.out).mono ?_
                rintro ee wx ⟨rfl, rfl⟩
                go_wp2_with fail
                refine (kg.out _ (Below.refl _ _)).mono ?_
                rintro ee w2 ⟨rfl, hb2⟩
                have Hb2 := Lib.hid hb2
                have hs2 := hb2.size
                have kd2 := Lib.hid (kd.out w2 hb2)
                clear hb2
                go_wp2_with fail
                refine (ko.out w2).mono ?_
                rintro ee wx ⟨rfl, rfl⟩
                go_wp2_with fail
                refine (kd2.out).mono ?_
                rintro ee w3 ⟨a3, c3, rfl, ho3, hb3⟩
                have Hb3 := Lib.hid ((HB.out.trans (Hb2.out.mono hws)).trans (hb3.mono (by omega)))
                have Ho3 := Lib.hid ho3
                have HoP := Lib.hid (ownsRow_below' (ownsRow_below' HO.out Hb2.out) hb3)
                have hs3 := hb3.size
                clear ho3 hb3
                cases hno2 : no with
                | false =>
                  clear hno2
                  go_wp2_with fail
                  go_ret3
                  exact .inl ⟨HE.out, rfl, Hb3.out⟩
                | true =>
                  clear hno2
                  go_wp2_with fail
                  go_ret3
                  exact .inl ⟨HE.out, rfl, Hb3.out⟩
            · simp only [if_neg hkd] at kg
              have HKD := Lib.hid hkd
              clear hkd
              have ko := Lib.hid (fun w => unchanged1_any nn w)
              go_wp2_with fail
              refine (kz.out _ HATA.out).mono ?_
              rintro ee wx ⟨rfl, rfl⟩
              go_wp2_with fail
              refine (kg.out _ (Below.refl _ _)).mono ?_
              rintro ee w2 ⟨rfl, hb2⟩
              have Hb2 := Lib.hid hb2
              have hs2 := hb2.size
              have kd2 := Lib.hid (kd.out w2 hb2)
              clear hb2
              go_wp2_with fail
              refine (ko.out w2).mono ?_
              rintro ee wx ⟨rfl, rfl⟩
              go_wp2_with fail
              refine (kd2.out).mono ?_
              rintro ee w3 ⟨a3, c3, rfl, ho3, hb3⟩
              have Hb3 := Lib.hid ((HB.out.trans (Hb2.out.mono hws)).trans (hb3.mono (by omega)))
              have Ho3 := Lib.hid ho3
              have HoP := Lib.hid (ownsRow_below' (ownsRow_below' HO.out Hb2.out) hb3)
              have hs3 := hb3.size
              clear ho3 hb3
              cases hno2 : no with
              | false =>
                have HE := Lib.hid (Hrf.out.bad HZ.out (.inr (.inl (by rw [← Hno.out, hno2]))))
                clear hno2
                go_wp2_with fail
                go_ret3
                exact .inl ⟨HE.out, rfl, Hb3.out⟩
              | true =>
                have hvn : T.vldB (tm.step nn).enc = true := by rw [← Hno.out, hno2]
                have hfe : nr = (tm.step nn).enc := by rw [Hnr.out, T.fit, if_pos hvn]
                have ho3 := Ho3.out
                rw [hfe] at ho3
                obtain ⟨g2, rfl, hg2, hatn, hcn, hcmn⟩ := own_rowT ho3
                obtain ⟨gq, hgq⟩ : ∃ gq, 3000 - m = gq + 1 := ⟨3000 - m - 1, by omega⟩
                have hrf := Hrf.out
                rw [hgq] at hrf
                have hnx := (hrf.next HZ.out hvn).2 HKD.out
                rw [show gq = 3000 - (m + 1) by omega] at hnx
                have Hnx := Lib.hid hnx
                have Hvn := Lib.hid hvn
                have Hfe := Lib.hid hfe
                have Hat := Lib.hid hatn
                have Hcn := Lib.hid hcn
                clear hno2 hvn hfe ho3 hatn hcn hnx hrf hgq
                have hfin : ClRel R N w (.slice (some ⟨g2, 0, none⟩) nr.length c3) (.int .i64 (nn : Int)) (.slice (some ⟨g, 0, none⟩) (nn + 1 - N) c) (.int .i64 ((m + 1 : Nat) : Int)) w3 :=
                  ⟨m + 1, nn, tm.step nn, by omega, by omega, by omega, Hvn.out, rfl, rfl, Hnx.out, Hb3.out, g, c, rfl, HoP.out, g2, 0, c3, by rw [Hfe.out], Hcn.out, hcmn, Hat.out, by omega⟩
                have Hfin := Lib.hid hfin
                clear hfin
                go_wp2_with fail
                go_roundw
                case rel => have h := Hfin.out; simpa using h
                case measure => simp [intOf]; omega
          · have hlt2 : ¬ (m : Int) < 3000 := by omega
            have HE := Lib.hid (Hrf.out.bad HZ.out (.inl (by omega)))
            go_wp2_with fail
            refine (kz.out _ HATA.out).mono ?_
            rintro ee wx ⟨rfl, rfl⟩
            go_wp2_with fail
            refine (kz.out _ HATA.out).mono ?_
            rintro ee wx ⟨rfl, rfl⟩
            go_wp2_with fail
            go_ret3
            exact .inl ⟨HE.out, rfl, HB.out⟩
    · rw [decide_eq_false hin] at ks
      rw [T.growP_bad (xs := xs) (n := n) (.inr hin)]
      clear h h1 hin _hn0 _hn1
      go_enter Try.func34, Try.ntmps34
      go_wp2_with fail
      refine (k1.out).mono ?_
      rintro ee w1 ⟨rfl, hb1⟩
      have Hb1 := Lib.hid hb1
      clear hb1
      go_wp2_with fail
      refine (ks.out _).mono ?_
      rintro ee w2 ⟨rfl, rfl⟩
      go_wp2_with fail
      go_ret3
      exact .inl ⟨rfl, rfl, Hb1.out⟩
  · have k1 := Lib.hid (impl_valid ao len cap xs w h h1)
    rw [T.growP_bad (xs := xs) (n := n) (.inl h1)]
    clear h h1 _hn0 _hn1
    go_enter Try.func34, Try.ntmps34
    go_wp2_with fail
    refine (k1.out).mono ?_
    rintro ee w1 ⟨rfl, hb1⟩
    have Hb1 := Lib.hid hb1
    clear hb1
    go_wp2_with fail
    go_ret3
    exact .inl ⟨rfl, rfl, Hb1.out⟩

theorem up_last (n k : Nat) (h : 0 < k) : (ints (T.up n k))[k - 1]? = some (.int .i64 ((n + (k - 1) : Nat) : Int)) := by
  simp only [ints, T.up, List.getElem?_map, List.getElem?_range (show k - 1 < k by omega), Option.map_some]

set_option maxHeartbeats 4000000 in
theorem impl_Grow (ao : Option Addr) (len cap : Nat) (xs : List Int) (n : Int) (w : World) (h : Sl w ao len cap xs) (hn0 : -9223372036854775808 ≤ n) (hn1 : n ≤ 9223372036854775807) :
    Calls Try.prog 13 #[.slice ao len cap, .int .i64 n] w fun e w' => e = .returned (.tuple #[.int .i64 (T.growE xs n), .int .i64 (T.growS xs n)]) ∧ Below w.heap.size w w' := by
  have k1 := Lib.hid (climb_any ao len cap xs n w h hn0 hn1)
  unfold T.growE T.growS
  obtain ⟨R, hR⟩ : ∃ R, R = T.growP xs n := ⟨_, rfl⟩
  obtain ⟨N, hN⟩ : ∃ N, N = n.toNat := ⟨_, rfl⟩
  rw [← hR] at k1 ⊢
  rw [← hN] at k1
  clear h hn0 hn1 hR hN
  go_enter Try.func13, Try.ntmps13
  go_wp2_with fail
  refine (k1.out).mono ?_
  rintro ee w1 (⟨rfl, rfl, hb⟩ | ⟨m, s, a, c, rfl, hm1, hm2, rfl, ho, hb⟩)
  · have Hb := Lib.hid hb
    clear hb
    go_wp2_with fail
    go_ret2
    exact ⟨rfl, Hb.out⟩
  · obtain ⟨g, c', hf⟩ := Joins.ownsRow_form ho (by omega)
    simp only [Value.slice.injEq] at hf
    obtain ⟨rfl, _, rfl⟩ := hf
    have z1 : w1.cell? ⟨g, m + 1 - N - 1, none⟩ = some (.int .i64 (m : Int)) := by
      rw [ho.cellAt _ (by omega), up_last _ _ (by omega), show N + (m + 1 - N - 1) = m by omega]
    have Hb := Lib.hid hb
    obtain ⟨k, hk⟩ : ∃ k, k = m + 1 - N := ⟨_, rfl⟩
    rw [← hk] at z1 ⊢
    have hk1 : 1 ≤ k := by omega
    have hk2 : k ≤ 91 := by omega
    clear hb ho hk
    go_wp2_with fail
    go_ret2
    exact ⟨rfl, Hb.out⟩

set_option maxHeartbeats 4000000 in
theorem impl_GrowPath (ao : Option Addr) (len cap : Nat) (xs : List Int) (n : Int) (w : World) (h : Sl w ao len cap xs) (hn0 : -9223372036854775808 ≤ n) (hn1 : n ≤ 9223372036854775807) :
    Calls Try.prog 18 #[.slice ao len cap, .int .i64 n] w (GPost w (T.growRow xs n)) := by
  have k1 := Lib.hid (climb_any ao len cap xs n w h hn0 hn1)
  unfold T.growRow
  obtain ⟨R, hR⟩ : ∃ R, R = T.growP xs n := ⟨_, rfl⟩
  obtain ⟨N, hN⟩ : ∃ N, N = n.toNat := ⟨_, rfl⟩
  rw [← hR] at k1 ⊢
  rw [← hN] at k1 ⊢
  clear h hn0 hn1 hR hN
  go_enter Try.func18, Try.ntmps18
  go_wp2_with fail
  refine (k1.out).mono ?_
  rintro ee w1 (⟨rfl, rfl, hb⟩ | ⟨m, s, a, c, rfl, hm1, hm2, rfl, ho, hb⟩)
  · have Hb := Lib.hid hb
    clear hb
    go_wp2_with fail
    go_ret
    exact ⟨none, 0, rfl, ⟨rfl, .inl ⟨rfl, rfl⟩⟩, Hb.out⟩
  · have Hb := Lib.hid hb
    have Ho := Lib.hid ho
    clear hb ho
    go_wp2_with fail
    go_ret
    refine ⟨a, c, ?_, ?_, Hb.out⟩
    · simp only [T.pathI, T.up_len]; rfl
    · simp only [T.pathI, T.up_len]; exact Ho.out
end Go.Proofs.Ytbhifmjpaageeaa
