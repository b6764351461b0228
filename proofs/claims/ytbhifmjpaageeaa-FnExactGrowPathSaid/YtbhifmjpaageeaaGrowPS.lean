/- GrowPath of the model. -/
import Derived.Test.YtbhifmjpaageeaaGrowS
import Derived.Maps.AppendAt
import Derived.Deep.CutBlock
import Derived.Deep.DeepCutAuto
import Derived.StillTailTactics
namespace Go.Proofs.Ytbhifmjpaageeaa
set_option maxRecDepth 100000
open Go.RowKit

/-- Between two rounds: the numbers that were reached. -/
def GpRel (g : Nat) (R : Option (Nat × Nat)) (n0 : Nat) (w : World) (v0 v1 v5 : Value) (wr : World) : Prop :=
  ∃ (s nn : Nat) (tm : T), g + s = 3000 ∧ n0 ≤ nn ∧ nn ≤ 90 ∧ T.vldB tm.enc = true ∧ v1 = .int .i64 nn ∧ T.riseFrom R s g nn tm ∧ Below w.heap.size w wr ∧
    ∃ q c, v5 = .slice (some ⟨q, 0, none⟩) (nn + 1 - n0) c ∧ wr.ownsRow w.heap.size 3 1 (.slice (some ⟨q, 0, none⟩) (nn + 1 - n0) c) (nn + 1 - n0) (ints (T.up n0 (nn + 1 - n0))) ∧
    ∃ bb off c', v0 = .slice (some ⟨bb, off, none⟩) tm.enc.length c' ∧ tm.enc.length ≤ c' ∧ c' ≤ maxLen ∧ At wr bb off tm.enc ∧ q ≠ bb

theorem At.past2 {w w' : World} {b off : Nat} {xs : List Int} {row : Option Nat} (h : At w b off xs) (hg : w.grownBy w' row) (hne : some b ≠ row) : At w' b off xs :=
  fun j hj => hg.cell (h j hj) hne
theorem up_one2 (n : Nat) : T.up n (n + 1 - n) = [(n : Int)] := by
  rw [show n + 1 - n = 1 by omega]
  simp [T.up]

set_option maxRecDepth 100000 in
set_option maxHeartbeats 8000000 in
theorem spec_GrowPath (ao : Option Addr) (len cap : Nat) (xs : List Int) (n : Int) (w : World) (h : Sl w ao len cap xs) (hn0 : -9223372036854775808 ≤ n) (hn1 : n ≤ 9223372036854775807) :
    Calls Try.prog 17 #[.slice ao len cap, .int .i64 n] w (GPost w (T.growRow xs n)) := by
  have k1 := Lib.hid (fun wx (hx : Below w.heap.size w wx) => spec_Grow ao len cap xs n wx (h.below hx) hn0 hn1)
  have Hlit := Lib.hid (show (w.alloc (.cells #[] 3)).ownsRow w.heap.size 3 1 (.slice (some ⟨w.heap.size, 0, none⟩) 0 0) 0 (ints []) from World.ownsRow_lit w #[] 0 (Nat.le_refl _) (by simp [maxLen]) rfl)
  have Hlb := Lib.hid ((Below.refl w.heap.size w).alloc (Nat.le_refl _) (.cells #[] 3))
  obtain ⟨i0, hi, hz0, hz1, hz2⟩ := info_parts info_int
  cases hP : T.growP xs n with
  | none =>
    have he : T.growE xs n = -1 := by rw [T.growE, hP]; rfl
    have hr : T.growRow xs n = [] := by rw [T.growRow, hP]; rfl
    rw [he] at k1
    rw [hr]
    clear h hn0 hn1 hP he hr
    go_enter Try.func17, Try.ntmps17
    go_wp2_with fail
    refine (k1.out _ Hlb.out).mono ?_
    rintro ee w1 ⟨rfl, hb1⟩
    have Hb1 := Lib.hid (Hlb.out.trans (hb1.mono Hlb.out.size))
    have Ho1 := Lib.hid (ownsRow_below' Hlit.out hb1)
    clear hb1
    go_wp2_with fail
    go_ret
    exact ⟨_, _, rfl, Ho1.out, Hb1.out⟩
  | some p =>
    obtain ⟨m, s0⟩ := p
    obtain ⟨b1, b2, b3, b4, b5, b6⟩ := T.growP_bnd hP
    dsimp only at b3 b4 b5
    have he : T.growE xs n = (m : Int) := by rw [T.growE, hP]; rfl
    obtain ⟨N, rfl⟩ : ∃ N : Nat, n = N := ⟨n.toNat, by omega⟩
    have hr : T.growRow xs N = T.up N (m + 1 - N) := by rw [T.growRow, hP]; rfl
    rw [he] at k1
    rw [hr]
    rw [Int.toNat_natCast] at b6
    obtain ⟨b, off, t, rfl, rfl, hs, hos, hat, hn, hl, hp, hc, hm⟩ := h.valid b1
    rw [T.of_enc] at b6
    have HAT := Lib.hid hat
    have HN := Lib.hid hn
    have H1 := Lib.hid b1
    have HR := Lib.hid b6.symm
    have hN1 : 1 ≤ N := by omega
    have hN9 : N ≤ 90 := by omega
    have hm0 : ¬ (m : Int) < 0 := by omega
    have hml : N ≤ m := by omega
    have hbl := hat.lt (T.enc_ne t)
    clear h hs hos hat hn hn0 hn1 hP he hr b1 b2 b3 b6
    go_enter Try.func17, Try.ntmps17
    go_wp2_with fail
    refine (k1.out _ Hlb.out).mono ?_
    rintro ee w1 ⟨rfl, hb1⟩
    have Hb1 := Lib.hid (Hlb.out.trans (hb1.mono Hlb.out.size))
    have Ho1 := Lib.hid (ownsRow_below' Hlit.out hb1)
    have hs1 := Hb1.out.size
    clear hb1
    go_wp2_with (first
      | (at_builtin; refine wpList_append_own_at _ rfl (.tmp 21) (.tmp 23) 22 rfl w.heap.size 3 i0 (.int .i64 0) 1 8 Try.underlying22 hi hz0 hz1 hz2 rfl (by decide) _ 0 (ints []) rfl (Ho1.out.alloc _) ⟨w1.heap.size, 0, none⟩ 1 1 [.int .i64 (N : Int)] rfl rfl (cell_one_new _ _ _) (ints_oneCell _ [(N : Int)]) (by unfold maxLen; omega) (by omega) (by simp; omega) ?_; intro v5 w2 ho2 hg2 _ _))
    obtain ⟨q, c, rfl⟩ := Joins.ownsRow_form ho2 (by omega)
    have hq : w.heap.size ≤ q := (ho2.lt q rfl).1
    have hst : GpRel 3000 (some (m, s0)) N w (.slice (some ⟨b, off, none⟩) len cap) (.int .i64 (N : Int)) (.slice (some ⟨q, 0, none⟩) (0 + 1) c) w2 := by
      refine ⟨0, N, t, rfl, Nat.le_refl _, hN9, H1.out, rfl, ?_, (Hb1.out.alloc hs1 _).grown hg2 (by simp; omega) (fun k e => by cases e; exact Nat.le_refl _), q, c, ?_, ?_, b, off, cap, ?_, ?_, hm, ?_, by omega⟩
      · rw [HR.out]; exact T.riseFrom.start 3000 N t
      · rw [show N + 1 - N = 1 by omega]
      · rw [up_one2, show N + 1 - N = 0 + 1 by omega]
        simpa [ints] using ho2
      · rw [← HN.out]
      · rw [← HN.out]; exact hc
      · exact ((HAT.out.below Hb1.out hbl).alloc (T.enc_ne t) _).past2 hg2 (fun e => by have h8 : b = w.heap.size := Option.some.inj e; omega)
    have Hst := Lib.hid hst
    clear hst ho2 hg2 hq
    go_wp2_with fail
    go_loopg [0, 1, 5] 3000 (fun gk v0 v1 v5 wr => GpRel gk (some (m, s0)) N w v0 v1 v5 wr)
    case atStart => exact Hst.out
    case round =>
      obtain ⟨sp, nn, tm, hgs, hn0, hn9, hvm, rfl, hrf, hb, g, c, rfl, ho, bb, off', c', rfl, hle, hcm', hata, hne⟩ := hrel
      have Hrf := Lib.hid hrf
      have HB := Lib.hid hb
      have HVM := Lib.hid hvm
      have HO := Lib.hid ho
      have HATA := Lib.hid hata
      obtain ⟨ln, hln⟩ : ∃ ln, ln = tm.enc.length := ⟨_, rfl⟩
      rw [← hln] at hle ⊢
      have HLN := Lib.hid hln
      have hbbl := hata.lt (T.enc_ne tm)
      have hsl := Lib.hid (fun wx (hx : At wx bb off' tm.enc) => Sl.of_at' (t := tm) hln hle hcm' hx)
      have kk := Lib.hid (spec_OrdKind (some ⟨bb, off', none⟩) ln c' tm.enc wr (hsl.out _ hata))
      rw [T.kindRow, if_pos hvm, T.of_enc] at kk
      have hgl : g < wr.heap.size := (ho.lt g rfl).2
      have hgB : w.heap.size ≤ g := (ho.lt g rfl).1
      have hws := hb.size
      clear hrf hb hvm ho hata hln
      by_cases hz : tm = .z
      · have hl1 : ln = 1 := by rw [HLN.out, hz]; rfl
        have hlb : ¬ (1 : Int) < ln := by omega
        have HE := Lib.hid (Option.some.inj (Hrf.out.done hz))
        obtain ⟨rfl, rfl⟩ : m = nn ∧ s0 = sp := by have h9 := HE.out; simpa using h9
        have HX := Lib.hid (show GPost w (T.up N (m + 1 - N)) (.returned (.slice (some ⟨g, 0, none⟩) (m + 1 - N) c)) wr from ⟨_, c, by rw [T.up_len], by rw [T.up_len]; exact HO.out, HB.out⟩)
        clear hz hl1
        go_wp2_with fail
        go_ret
        exact HX.out
      · have hlb : (1 : Int) < ln := by
          cases tm with
          | z => exact absurd rfl hz
          | c q f u =>
            have h1 := HLN.out
            rw [T.enc_len, T.body_c] at h1
            simp [T.enc] at h1
            omega
        have HZ := Lib.hid hz
        obtain ⟨gq, hgq⟩ : ∃ gq, gk = gq + 1 := by
          cases gk with
          | zero => exact absurd (Hrf.out.bad hz (.inl rfl)) (by simp)
          | succ gq => exact ⟨gq, rfl⟩
        subst hgq
        have hvn : T.vldB (tm.step nn).enc = true := by
          cases h9 : T.vldB (tm.step nn).enc with
          | true => rfl
          | false => exact absurd (Hrf.out.bad hz (.inr (.inl h9))) (by simp)
        have Hvn := Lib.hid hvn
        have hv2 := T.stepRow_val HVM.out (show (0 : Int) ≤ nn by omega) (by omega)
        rw [hvn, T.fit, if_pos hvn] at hv2
        have ks2 := Lib.hid (fun w2 (hx : Below wr.heap.size wr w2) => spec_OrdStep (some ⟨bb, off', none⟩) ln c' tm.enc nn w2 ((hsl.out _ HATA.out).below hx) (by omega) (by omega))
        unfold OrdOkPost at ks2
        rw [hv2.1, hv2.2] at ks2
        obtain ⟨nl, hnl⟩ : ∃ nl, nl = (tm.step nn).enc.length := ⟨_, rfl⟩
        rw [← hnl] at ks2
        have Hnl := Lib.hid hnl
        clear hz hvn hv2 hnl
        by_cases hkd : tm.kind = 1
        · have hkb : (tm.kind == 1) = true := by rw [hkd]; rfl
          have h90 : nn < 90 := by
            rcases Nat.lt_or_ge nn 90 with h9 | h9
            · exact h9
            · exact absurd (Hrf.out.bad HZ.out (.inr (.inr ⟨hkd, h9⟩))) (by simp)
          have HNX := Lib.hid ((Hrf.out.next HZ.out Hvn.out).1 hkd h90)
          clear hkd
          go_wp2_with fail
          refine (kk.out).mono ?_
          rintro ee w2 ⟨rfl, hb2⟩
          have ks3 := Lib.hid (ks2.out w2 hb2)
          have Hb2 := Lib.hid hb2
          have hs2 := hb2.size
          clear hb2 ks2
          go_wp2_with fail
          refine (ks3.out).mono ?_
          rintro ee w3 ⟨a3, c3, rfl, ho3, hb3⟩
          have Hb3 := Lib.hid ((HB.out.trans (Hb2.out.mono hws)).trans (hb3.mono (by omega)))
          have hs3 := hb3.size
          rw [Hnl.out] at ho3
          obtain ⟨g2, rfl, hg2, hatn, hcn, hcmn⟩ := own_rowT ho3
          have Hat := Lib.hid hatn
          have Hcn := Lib.hid hcn
          have HoP := Lib.hid (ownsRow_below' (ownsRow_below' HO.out Hb2.out) hb3)
          clear ho3 hb3 hatn hcn
          go_wp2_with (first
            | (at_builtin; refine wpList_append_own_at _ rfl (.tmp 41) (.tmp 43) 22 rfl w.heap.size 3 i0 (.int .i64 0) 1 8 Try.underlying22 hi hz0 hz1 hz2 rfl (by decide) _ (nn + 1 - N) (ints (T.up N (nn + 1 - N))) rfl (HoP.out.alloc _) ⟨w3.heap.size, 0, none⟩ 1 1 [.int .i64 ((nn : Int) + 1)] rfl rfl (cell_one_new _ _ _) (ints_oneCell _ [((nn : Int) + 1)]) (by unfold maxLen; omega) (by omega) (by simp; omega) ?_; intro v7 w4 ho4 hg4 _ hob4))
          obtain ⟨g7, c7, rfl⟩ := Joins.ownsRow_form ho4 (by omega)
          have hg2l := Hat.out.lt (T.enc_ne _)
          have hb4 : Below w.heap.size w w4 := (Hb3.out.alloc (by omega) _).grown hg4 (by simp; omega) (fun k e => by have h8 : g = k := Option.some.inj e; omega)
          have hfin : GpRel gq (some (m, s0)) N w (.slice (some ⟨g2, 0, none⟩) nl c3) (.int .i64 ((nn : Int) + 1)) (.slice (some ⟨g7, 0, none⟩) (nn + 1 - N + 1) c7) w4 := by
            refine ⟨sp + 1, nn + 1, tm.step nn, by omega, by omega, by omega, Hvn.out, rfl, HNX.out, hb4, g7, c7, ?_, ?_, g2, 0, c3, by rw [Hnl.out], Hcn.out, hcmn, (Hat.out.alloc (T.enc_ne _) _).past2 hg4 (fun e => by have h8 : g2 = g := Option.some.inj e; omega), ?_⟩
            · rw [show nn + 1 + 1 - N = nn + 1 - N + 1 by omega]
            · rw [show nn + 1 + 1 - N = nn + 1 - N + 1 by omega, ← T.up_snoc, show N + (nn + 1 - N) = nn + 1 by omega]
              simpa [ints] using ho4
            · rcases hob4 with h9 | h9
              · have h8 : g7 = g := Option.some.inj h9
                omega
              · have h8 : g7 = (w3.alloc (.cells #[.int .i64 ((nn : Int) + 1)] 3)).heap.size := Option.some.inj h9
                rw [World.size_alloc] at h8
                omega
          have Hfin := Lib.hid hfin
          clear hfin hb4 ho4 hg4 hob4
          go_wp2_with fail
          go_roundg gq
          case measure => omega
          case rel => exact Hfin.out
        · have hkb : (tm.kind == 1) = false := by simpa using hkd
          have HNX := Lib.hid ((Hrf.out.next HZ.out Hvn.out).2 hkd)
          clear hkd
          go_wp2_with fail
          refine (kk.out).mono ?_
          rintro ee w2 ⟨rfl, hb2⟩
          have ks3 := Lib.hid (ks2.out w2 hb2)
          have Hb2 := Lib.hid hb2
          have hs2 := hb2.size
          clear hb2 ks2
          go_wp2_with fail
          refine (ks3.out).mono ?_
          rintro ee w3 ⟨a3, c3, rfl, ho3, hb3⟩
          have Hb3 := Lib.hid ((HB.out.trans (Hb2.out.mono hws)).trans (hb3.mono (by omega)))
          have hs3 := hb3.size
          rw [Hnl.out] at ho3
          obtain ⟨g2, rfl, hg2, hatn, hcn, hcmn⟩ := own_rowT ho3
          have HoP := Lib.hid (ownsRow_below' (ownsRow_below' HO.out Hb2.out) hb3)
          have hfin : GpRel gq (some (m, s0)) N w (.slice (some ⟨g2, 0, none⟩) nl c3) (.int .i64 (nn : Int)) (.slice (some ⟨g, 0, none⟩) (nn + 1 - N) c) w3 :=
            ⟨sp + 1, nn, tm.step nn, by omega, by omega, by omega, Hvn.out, rfl, HNX.out, Hb3.out, g, c, rfl, HoP.out, g2, 0, c3, by rw [Hnl.out], hcn, hcmn, hatn, by omega⟩
          have Hfin := Lib.hid hfin
          clear hfin ho3 hb3 hatn hcn
          go_wp2_with fail
          go_roundg gq
          case measure => omega
          case rel => exact Hfin.out
end Go.Proofs.Ytbhifmjpaageeaa
