/- RelPairs by the program. -/
import Derived.Test.YtagdeifalkenhaaDoorRelCj
import Derived.Test.YtagdeifalkenhaaDoorRelP
namespace Go.Proofs.YtagdeifalkenhaaDoor
set_option maxRecDepth 100000
open Go.RowKit

/-- The pairs so far. -/
def PrRel (w : World) (xs ys : List Int) (c : Nat) (v : Value) (wr : World) : Prop :=
  ∃ (a : Option Addr) (c5 : Nat), v = .slice a c c5 ∧ wr.ownsRow w.heap.size 3 1 v c (ints (prp xs ys c)) ∧ Below w.heap.size w wr
theorem PrRel.start (w : World) (xs ys : List Int) {w1 : World} (h : Below w.heap.size w w1) : PrRel w xs ys 0 (.slice none 0 0) w1 := ⟨none, 0, rfl, ⟨rfl, .inl ⟨rfl, rfl⟩⟩, h⟩

set_option maxHeartbeats 4000000 in
theorem impl_RelPairs (a0 : Option Addr) (n0 c0 : Nat) (x0 : List Int) (a1 : Option Addr) (n1 c1 : Nat) (x1 : List Int) (w : World) (h0 : Sl w a0 n0 c0 x0) (h1 : Sl w a1 n1 c1 x1) (hT : Tab w) :
    Calls Tryd.prog 19 #[.slice a0 n0 c0, .slice a1 n1 c1] w (RkPost w (prs x0 x1)) := by
  obtain ⟨i0, hi, hz0, hz1, hz2⟩ := info_parts info_int
  have k0 := Lib.hid (iRelValid_any a0 n0 c0 x0 w h0)
  have k1 := Lib.hid (iRelValid_any a1 n1 c1 x1 w h1)
  have HL0 := Lib.hid h0.1
  have HL1 := Lib.hid h1.1
  have H0 := Lib.hid h0
  have H1 := Lib.hid h1
  have HT := Lib.hid hT
  have htl := hT.lt
  obtain ⟨r, hr⟩ : ∃ r, r = prs x0 x1 := ⟨_, rfl⟩
  have HNo : Hid (¬ (relB x0 = true ∧ relB x1 = true ∧ x0.length * x1.length ≤ 12) → r = []) := fun h9 => hr.trans (if_neg h9)
  have HYes : Hid (relB x0 = true ∧ relB x1 = true ∧ x0.length * x1.length ≤ 12 → r = prp x0 x1 (n0 * n1)) := fun h9 => by rw [hr, prs, if_pos h9, h0.1, h1.1]
  rw [← hr]
  clear h0 h1 hr hT
  rcases rel_tf x0 with e0 | e0
  · rw [e0] at k0
    have hR0 := relB_true.1 e0
    have hn0 := hR0.1
    rw [HL0.out] at hn0
    rcases rel_tf x1 with e1 | e1
    · rw [e1] at k1
      have hR1 := relB_true.1 e1
      have hn1 := hR1.1
      rw [HL1.out] at hn1
      have hmul : n0 * n1 ≤ 144 := Nat.mul_le_mul hn0.2 hn1.2
      have hwm : IntKind.i64.wrap ((n0 : Int) * (n1 : Int)) = ((n0 * n1 : Nat) : Int) := by rw [← Int.natCast_mul]; exact wrap_nat _ (by omega)
      by_cases hN : n0 * n1 ≤ 12
      · have hrr := HYes.out ⟨e0, e1, by rw [HL0.out, HL1.out]; exact hN⟩
        have HRr := Lib.hid hrr
        have HN := Lib.hid hN
        have HR0 := Lib.hid hR0
        have HR1 := Lib.hid hR1
        obtain ⟨N, hNN⟩ : ∃ N, N = n0 * n1 := ⟨_, rfl⟩
        have HNN := Lib.hid hNN
        rw [← hNN] at hwm hN
        obtain ⟨b0, o0, rfl, hat0⟩ := H0.out.2.2.2 (by omega)
        have hb0 : b0 < w.heap.size := hat0.lt (by intro h9; have := HL0.out; rw [h9] at this; simp at this; omega)
        obtain ⟨b1, o1, rfl, hat1⟩ := H1.out.2.2.2 (by omega)
        have hb1 : b1 < w.heap.size := hat1.lt (by intro h9; have := HL1.out; rw [h9] at this; simp at this; omega)
        have HA0 := Lib.hid hat0
        have HA1 := Lib.hid hat1
        clear e0 e1 hR0 hR1 hrr hat0 hat1 hNN hmul
        go_enter Tryd.func19, Tryd.ntmps19
        go_wp2_with fail
        refine (k0.out).mono ?_
        rintro ee wx ⟨rfl, rfl⟩
        go_wp2_with fail
        refine (k1.out).mono ?_
        rintro ee wx ⟨rfl, rfl⟩
        go_wp2_with fail
        try simp only [hwm]
        go_wp2_with fail
        go_loopw [5, 28] (fun v5 v28 wr => ∃ i c : Nat, i ≤ n0 ∧ v28 = .int .i64 i ∧ Hid (c = i * n1) ∧ PrRel w x0 x1 c v5 wr) (fun _ v28 _ => n0 - (intOf v28).toNat)
        case atStart => exact ⟨0, 0, Nat.zero_le _, rfl, Lib.hid (Nat.zero_mul _).symm, PrRel.start _ _ _ (Below.refl _ _)⟩
        case round =>
          obtain ⟨i, c, hi0, rfl, Hc, hP⟩ := hrel
          by_cases hlt : i < n0
          · have hbel := hP.choose_spec.choose_spec.2.2
            have y0 := cr_row HA0.out HR0.out rfl HL0.out hlt hbel hb0
            have HP := Lib.hid hP
            have hA2 := HR0.out.row i
            rw [HL0.out] at hA2
            obtain ⟨A, hA⟩ : ∃ A, A = rw' x0 i := ⟨_, rfl⟩
            rw [← hA] at y0 hA2
            have HAe := Lib.hid hA
            have HA2 := Lib.hid hA2
            clear hP hbel hA hA2
            go_wp2_with fail
            go_loopw [5, 35] (fun v5 v35 wr => ∃ k d : Nat, k ≤ n1 ∧ v35 = .int .i64 k ∧ Hid (d = i * n1 + k) ∧ PrRel w x0 x1 d v5 wr) (fun _ v35 _ => n1 - (intOf v35).toNat)
            case atStart => exact ⟨0, c, Nat.zero_le _, rfl, Lib.hid Hc.out, HP.out⟩
            case round =>
              obtain ⟨k, d, hk1, rfl, Hd, hQ⟩ := hrel
              by_cases hkl : k < n1
              · obtain ⟨a5, c5, rfl, ho, hbel⟩ := hQ
                obtain ⟨wA, rfl⟩ : ∃ wA : World, wA = wr := ⟨_, rfl⟩
                have y1 := cr_row HA1.out HR1.out rfl HL1.out hkl hbel hb1
                have hB2 := HR1.out.row k
                rw [HL1.out] at hB2
                obtain ⟨B, hB⟩ : ∃ B, B = rw' x1 k := ⟨_, rfl⟩
                rw [← hB] at y1 hB2
                have hd12 : d < 12 := by
                  have h8 : (i + 1) * n1 ≤ n0 * n1 := Nat.mul_le_mul_right n1 hlt
                  rw [Nat.succ_mul] at h8
                  have := Hd.out; have := HN.out; omega
                have hsn := prp_at x0 x1 i k (by rw [HL1.out]; exact hkl)
                rw [HL1.out, pr, ← HAe.out, ← hB, ← Hd.out] at hsn
                have kf := Lib.hid (fun wx => setOfFirst_any n1 (by omega) wx)
                have kq := Lib.hid (fun wx => setOf_any i (by omega) wx)
                have hf2 : 2 ^ n1 - 1 < 2 ^ n1 := two_lt'
                have hq2 : 2 ^ i < 2 ^ n0 := Nat.pow_lt_pow_right (by decide) hlt
                have kP := Lib.hid (fun wx (hx : Tab wx) => pairsWith_any A (2 ^ n1 - 1) n1 n0 wx HA2.out hn1.1 hf2 HN.out hx)
                have kQ := Lib.hid (fun wx (hx : Tab wx) => pairsWith_any (2 ^ i) B n1 n0 wx hq2 hn1.1 hB2 HN.out hx)
                have hP4 : pw A (2 ^ n1 - 1) n1 < 4096 := Nat.lt_of_lt_of_le (pw_lt hn0.2 HA2.out hn1.1 hf2) (two_le HN.out)
                have hQ4 : pw (2 ^ i) B n1 < 4096 := Nat.lt_of_lt_of_le (pw_lt hn0.2 hq2 hn1.1 hB2) (two_le HN.out)
                obtain ⟨f, hf⟩ : ∃ f, f = 2 ^ n1 - 1 := ⟨_, rfl⟩
                obtain ⟨q, hq⟩ : ∃ q, q = 2 ^ i := ⟨_, rfl⟩
                rw [← hf] at kf kP hP4 hsn
                rw [← hq] at kq kQ hQ4 hsn
                obtain ⟨P, hP⟩ : ∃ P, P = pw A f n1 := ⟨_, rfl⟩
                obtain ⟨Q, hQ⟩ : ∃ Q, Q = pw q B n1 := ⟨_, rfl⟩
                rw [← hP] at kP hP4 hsn
                rw [← hQ] at kQ hQ4 hsn
                have hor := or_i64 P Q (by omega) (by omega)
                obtain ⟨O, hO⟩ : ∃ O, O = P ||| Q := ⟨_, rfl⟩
                rw [← hO] at hor hsn
                have Hsn := Lib.hid hsn
                have HO := Lib.hid ho
                have HB := Lib.hid hbel
                have hwA := hbel.size
                clear hB hB2 hsn hf2 hq2 hf hq hP hQ hO hP4 hQ4 ho hbel
                go_wp2_with fail
                refine (kf.out _).mono ?_
                rintro ee wx ⟨rfl, rfl⟩
                have kP1 := Lib.hid (kP.out wA (HT.out.below HB.out htl))
                go_wp2_with fail
                refine (kP1.out).mono ?_
                rintro ee w1 ⟨rfl, hc1⟩
                have HB1 := Lib.hid (HB.out.trans (hc1.mono hwA))
                have HO1 := Lib.hid (ownsRow_below' HO.out hc1)
                clear hc1
                go_wp2_with fail
                refine (kq.out _).mono ?_
                rintro ee wx ⟨rfl, rfl⟩
                have kQ1 := Lib.hid (kQ.out w1 (HT.out.below HB1.out htl))
                go_wp2_with fail
                refine (kQ1.out).mono ?_
                rintro ee w2 ⟨rfl, hc2⟩
                have HB2 := Lib.hid (HB1.out.trans (hc2.mono HB1.out.size))
                have hw2 := HB2.out.size
                have HO2 := Lib.hid (ownsRow_below' HO1.out hc2)
                clear hc2
                go_wp2_with (first
                  | (at_builtin; go_loud (refine wpList_append_own _ rfl (.tmp 39) (.tmp 54) 23 rfl w.heap.size 3 i0 (.int .i64 0) 1 8 Tryd.underlying23 hi hz0 hz1 hz2 rfl (by decide) _ d (ints (prp x0 x1 d)) (by rfl) (HO2.out.alloc _) ⟨w2.heap.size, 0, none⟩ 1 1 [.int .i64 O] (by rfl) (by rfl) (cell_one_new _ _ _) (ints_oneCell _ [_]) (by unfold maxLen; omega) (by omega) (by simp; omega) ?_; intro v2' wB ho5 hg5 _; obtain ⟨g6, c6, rfl⟩ := Joins.ownsRow_form ho5 (by omega); have hbB : Below w.heap.size w wB := (HB2.out.alloc hw2 _).grown hg5 (by simp; omega) (fun r e => (HO2.out.lt r e).1))))
                have hfin : PrRel w x0 x1 (d + 1) (.slice (some ⟨g6, 0, none⟩) (d + 1) c6) wB :=
                  ⟨_, c6, rfl, by rw [Hsn.out]; simpa [ints] using ho5, hbB⟩
                have Hfin := Lib.hid hfin
                clear hfin ho5 hg5 hbB
                go_wp2_with fail
                go_roundw
                case rel => exact ⟨k + 1, d + 1, by omega, by go_num, Lib.hid (by have := Hd.out; omega), Hfin.out⟩
                case measure => exact idx_measure hkl
              · obtain rfl : k = n1 := by omega
                have HQ := Lib.hid hQ
                clear hQ
                go_wp2_with fail
                go_roundw
                case rel => exact ⟨i + 1, d, by omega, by go_num, Lib.hid (by rw [Nat.succ_mul]; exact Hd.out), HQ.out⟩
                case measure => exact idx_measure hlt
          · obtain rfl : i = n0 := by omega
            obtain ⟨a5, c5, rfl, ho, hbel⟩ := hP
            have HO := Lib.hid ho
            have HB := Lib.hid hbel
            have hlen : r.length = c := by rw [HRr.out, prp_len]; exact Hc.out.symm
            have HLn := Lib.hid hlen
            clear ho hbel hlen
            go_wp2_with fail
            go_ret
            refine ⟨a5, c5, by rw [HLn.out]; rfl, ?_, HB.out⟩
            rw [HLn.out, HRr.out, ← Hc.out]
            exact HO.out
      · have hr0 := HNo.out (fun h9 => hN (by have := h9.2.2; rw [HL0.out, HL1.out] at this; exact this))
        obtain ⟨N, hNN⟩ : ∃ N, N = n0 * n1 := ⟨_, rfl⟩
        rw [← hNN] at hwm hN
        clear hNN hmul e0 e1 hR0 hR1
        subst hr0
        go_enter Tryd.func19, Tryd.ntmps19
        go_wp2_with fail
        refine (k0.out).mono ?_
        rintro ee wx ⟨rfl, rfl⟩
        go_wp2_with fail
        refine (k1.out).mono ?_
        rintro ee wx ⟨rfl, rfl⟩
        go_wp2_with fail
        try simp only [hwm]
        go_wp2_with fail
        go_ret
        exact ⟨none, 0, rfl, ⟨rfl, .inl ⟨rfl, rfl⟩⟩, Below.refl _ _⟩
    · rw [e1] at k1
      have hr0 := HNo.out (fun h9 => by rw [h9.2.1] at e1; cases e1)
      clear e0 e1 hR0
      subst hr0
      go_enter Tryd.func19, Tryd.ntmps19
      go_wp2_with fail
      refine (k0.out).mono ?_
      rintro ee wx ⟨rfl, rfl⟩
      go_wp2_with fail
      refine (k1.out).mono ?_
      rintro ee wx ⟨rfl, rfl⟩
      go_wp2_with fail
      go_ret
      exact ⟨none, 0, rfl, ⟨rfl, .inl ⟨rfl, rfl⟩⟩, Below.refl _ _⟩
  · rw [e0] at k0
    have hr0 := HNo.out (fun h9 => by rw [h9.1] at e0; cases e0)
    clear e0
    subst hr0
    go_enter Tryd.func19, Tryd.ntmps19
    go_wp2_with fail
    refine (k0.out).mono ?_
    rintro ee wx ⟨rfl, rfl⟩
    go_wp2_with fail
    go_ret
    exact ⟨none, 0, rfl, ⟨rfl, .inl ⟨rfl, rfl⟩⟩, Below.refl _ _⟩

end Go.Proofs.YtagdeifalkenhaaDoor
