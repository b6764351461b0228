/- Relations: CircleOk of program and model. -/
import Derived.Test.YtagdeifalkenhaaDoorRelB
import Derived.Test.YtagdeifalkenhaaDoorIdx
namespace Go.Proofs.YtagdeifalkenhaaDoor
set_option maxRecDepth 100000
open Go.RowKit

/-- The place before, in a circle. -/
def prv (m k : Nat) : Nat := if k = 0 then m - 1 else k - 1
def pt (ps : List Int) (k : Nat) : Nat := (ps.getD k 0).toNat
def CircOk (xs ps : List Int) : Prop := RelOk xs ∧ 1 ≤ ps.length ∧ upTo ((xs.length : Int) - 1) ps = true ∧ ∀ k, k < ps.length → (rw' xs (pt ps (prv ps.length k))).testBit (pt ps k) = true
open Classical in
noncomputable def circB (xs ps : List Int) : Bool := decide (CircOk xs ps)
theorem circB_true {xs ps : List Int} : circB xs ps = true ↔ CircOk xs ps := by unfold circB; exact @decide_eq_true_iff _ (Classical.propDecidable _)
theorem circB_no {xs ps : List Int} (h : ¬ CircOk xs ps) : circB xs ps = false := by
  cases h1 : circB xs ps with
  | false => rfl
  | true => exact absurd (circB_true.1 h1) h
theorem prv_next {m j : Nat} (h : j < m) : prv m ((j + 1) % m) = j := by
  unfold prv
  by_cases hj : j + 1 = m
  · rw [hj, Nat.mod_self, if_pos rfl]; omega
  · rw [Nat.mod_eq_of_lt (by omega), if_neg (by omega)]; omega
theorem next_prv {m k : Nat} (h : k < m) : (prv m k + 1) % m = k := by
  unfold prv
  by_cases hk : k = 0
  · subst hk; rw [if_pos rfl, show m - 1 + 1 = m by omega, Nat.mod_self]
  · rw [if_neg hk, show k - 1 + 1 = k by omega, Nat.mod_eq_of_lt h]
theorem prv_lt {m k : Nat} (h : k < m) : prv m k < m := by unfold prv; split <;> omega
theorem pt_int {n : Nat} {ps : List Int} {k : Nat} (hu : upTo ((n : Int) - 1) ps = true) (hk : k < ps.length) : ps.getD k 0 = (pt ps k : Int) ∧ pt ps k < n := by
  have := upTo_get hu hk
  unfold pt
  omega

set_option maxHeartbeats 2000000 in
theorem impl_CircleOk (a1 a2 : Option Addr) (n1 c1 n2 c2 : Nat) (xs ps : List Int) (w : World) (hx : Sl w a1 n1 c1 xs) (hy : Sl w a2 n2 c2 ps) (hn2 : n2 ≤ 1048576) :
    Calls Tryd.prog 8 #[.slice a1 n1 c1, .slice a2 n2 c2] w fun e w' => e = .returned (.bool (circB xs ps)) ∧ Below w.heap.size w w' := by
  have k1 := Lib.hid (iRelValid_any a1 n1 c1 xs w hx)
  have HX := Lib.hid hx
  have HY := Lib.hid hy
  obtain ⟨o, ho⟩ : ∃ o, o = circB xs ps := ⟨_, rfl⟩
  have HNo : Hid (¬ CircOk xs ps → o = false) := fun h9 => ho.trans (circB_no h9)
  have HYes : Hid (CircOk xs ps → o = true) := fun h9 => ho.trans (circB_true.2 h9)
  rw [← ho]
  clear hx hy ho
  rcases rel_tf xs with h1 | h1
  · rw [h1] at k1
    have hR := relB_true.1 h1
    have hn12 := hR.1
    rw [HX.out.1] at hn12
    obtain ⟨b, off, rfl, hat⟩ := HX.out.2.2.2 (by omega)
    have HA := Lib.hid hat
    have HR := Lib.hid hR
    clear h1 hR hat
    have hm1 : IntKind.i64.wrap ((n1 : Int) - 1) = (n1 : Int) - 1 := IntWalk.i64_in _ (by omega)
    by_cases h0 : n2 = 0
    · obtain rfl := HNo.out (fun h9 => by have := h9.2.1; rw [HY.out.1] at this; omega)
      subst h0
      have hz : (((0 : Nat) : Int) == 0) = true := rfl
      go_enter Tryd.func8, Tryd.ntmps8
      go_wp2_with fail
      refine (k1.out).mono ?_
      rintro ee wx ⟨rfl, rfl⟩
      go_wp2_with fail
      go_ret
      exact ⟨rfl, Below.refl _ _⟩
    · have hz : ((n2 : Int) == 0) = false := by simp; omega
      have k2 := Lib.hid (allUpTo_any a2 n2 c2 ps ((n1 : Int) - 1) w (by omega) HY.out)
      rcases up_tf ((n1 : Int) - 1) ps with hu | hu
      · rw [hu] at k2
        have HU := Lib.hid hu
        obtain ⟨b2, off2, rfl, hat2⟩ := HY.out.2.2.2 (by omega)
        have HA2 := Lib.hid hat2
        obtain ⟨m1, hmm⟩ : ∃ m1, n2 = m1 + 1 := ⟨n2 - 1, by omega⟩
        have hj1 : IntKind.i64.wrap ((n2 : Int) - 1) = (m1 : Int) := by rw [IntWalk.i64_in _ (by omega)]; omega
        have hj2 : (n2 : Int) - 1 = (m1 : Int) := by omega
        have hml : m1 < n2 := by omega
        have yl := hat2 m1 (by rw [HY.out.1]; exact hml)
        have HM := Lib.hid hmm
        have hpl := (pt_int hu (k := m1) (by rw [HY.out.1]; exact hml))
        rw [hpl.1] at yl
        have Hst := Lib.hid (show pt ps m1 = pt ps (prv n2 0) by unfold prv; rw [if_pos rfl, hmm]; rfl)
        obtain ⟨l, hl⟩ : ∃ l, l = pt ps m1 := ⟨_, rfl⟩
        rw [← hl] at yl Hst
        have hl12 := hpl.2
        rw [← hl] at hl12
        clear hu hat2 hmm hpl hl h0
        go_enter Tryd.func8, Tryd.ntmps8
        go_wp2_with fail
        refine (k1.out).mono ?_
        rintro ee wx ⟨rfl, rfl⟩
        go_wp2_with fail
        refine (k2.out).mono ?_
        rintro ee wx ⟨rfl, rfl⟩
        go_wp2_with fail
        go_loopw [5, 7, 32] (fun v5 _ v32 wr => ∃ k : Nat, k ≤ n2 ∧ v32 = .int .i64 k ∧ v5 = .int .i64 (pt ps (prv n2 k) : Nat) ∧ Hid (∀ j, j < k → (rw' xs (pt ps (prv n2 j))).testBit (pt ps j) = true) ∧ w = wr) (fun _ _ v32 _ => n2 - (intOf v32).toNat)
        case atStart => exact ⟨0, Nat.zero_le _, rfl, by rw [Hst.out], fun j hj => by omega, rfl⟩
        case round =>
          obtain ⟨k, hk, rfl, rfl, HE, rfl⟩ := hrel
          by_cases hlt : k < n2
          · have hpk := pt_int HU.out (k := k) (by rw [HY.out.1]; exact hlt)
            have hpb := pt_int HU.out (k := prv n2 k) (by rw [HY.out.1]; exact prv_lt hlt)
            have y0 := HA2.out k (by rw [HY.out.1]; exact hlt)
            rw [hpk.1] at y0
            have hp1 := hpk.2
            have hp2 := hpb.2
            have y1 : w.cell? ⟨b, off + pt ps (prv n2 k), none⟩ = some (.int .i64 (rw' xs (pt ps (prv n2 k)) : Nat)) := by
              rw [HA.out (pt ps (prv n2 k)) (by rw [HX.out.1]; exact hp2), HR.out.row_int (by rw [HX.out.1]; exact hp2)]
            have hr4 := HR.out.row_lt (pt ps (prv n2 k))
            have hnx : prv n2 (k + 1) = k := by unfold prv; rw [if_neg (by omega)]; rfl
            have Hnx := Lib.hid (show pt ps (prv n2 (k + 1)) = pt ps k by rw [hnx])
            have ki := Lib.hid (isIn_any (pt ps k) (rw' xs (pt ps (prv n2 k))) (by omega) (by omega) w)
            have hE9 : (rw' xs (pt ps (prv n2 k))).testBit (pt ps k) = true → ∀ j, j < k + 1 → (rw' xs (pt ps (prv n2 j))).testBit (pt ps j) = true := fun h9 j hj => by
              by_cases hjk : j = k
              · subst hjk; exact h9
              · exact HE.out j (by omega)
            have HN9 := Lib.hid (show (rw' xs (pt ps (prv n2 k))).testBit (pt ps k) = false → o = false from fun h9 => HNo.out (fun h8 => by
              have := h8.2.2.2 k (by rw [HY.out.1]; exact hlt)
              rw [HY.out.1, h9] at this; cases this))
            obtain ⟨p, hp⟩ : ∃ p, p = pt ps k := ⟨_, rfl⟩
            obtain ⟨q, hq⟩ : ∃ q, q = pt ps (prv n2 k) := ⟨_, rfl⟩
            obtain ⟨r, hr⟩ : ∃ r, r = rw' xs (pt ps (prv n2 k)) := ⟨_, rfl⟩
            rw [← hr] at y1 ki hE9 HN9 hr4
            rw [← hp] at y0 ki hE9 HN9 hp1 Hnx
            rw [← hq] at y1 hp2 ⊢
            clear hp hq hr hpk hpb hnx
            rcases bit_tf r p with hB | hB
            · rw [hB] at ki
              have HE2 := Lib.hid (hE9 hB)
              clear hB hE9
              go_wp2_with fail
              refine (ki.out).mono ?_
              rintro ee wx ⟨rfl, rfl⟩
              go_wp2_with fail
              go_roundw
              case rel => exact ⟨k + 1, by omega, by go_num, by rw [Hnx.out], HE2.out, by trivial⟩
              case measure => exact idx_measure hlt
            · rw [hB] at ki
              obtain rfl := HN9.out hB
              clear hB hE9
              go_wp2_with fail
              refine (ki.out).mono ?_
              rintro ee wx ⟨rfl, rfl⟩
              go_wp2_with fail
              go_ret
              exact ⟨rfl, Below.refl _ _⟩
          · obtain rfl : k = n2 := by omega
            obtain rfl := HYes.out ⟨HR.out, by rw [HY.out.1]; omega, by rw [HX.out.1]; exact HU.out, fun j hj => by
              rw [HY.out.1] at hj ⊢; exact HE.out j hj⟩
            go_wp2_with fail
            go_ret
            exact ⟨rfl, Below.refl _ _⟩
      · rw [hu] at k2
        obtain rfl := HNo.out (fun h9 => by have := h9.2.2.1; rw [HX.out.1, hu] at this; cases this)
        clear hu
        go_enter Tryd.func8, Tryd.ntmps8
        go_wp2_with fail
        refine (k1.out).mono ?_
        rintro ee wx ⟨rfl, rfl⟩
        go_wp2_with fail
        refine (k2.out).mono ?_
        rintro ee wx ⟨rfl, rfl⟩
        go_wp2_with fail
        go_ret
        exact ⟨rfl, Below.refl _ _⟩
  · rw [h1] at k1
    obtain rfl := HNo.out (fun h9 => relB_false h1 h9.1)
    clear h1
    go_enter Tryd.func8, Tryd.ntmps8
    go_wp2_with fail
    refine (k1.out).mono ?_
    rintro ee wx ⟨rfl, rfl⟩
    go_wp2_with fail
    go_ret
    exact ⟨rfl, Below.refl _ _⟩

theorem next_lt {m k : Nat} (h : k < m) : (k + 1) % m < m := Nat.mod_lt _ (by omega)
set_option maxHeartbeats 8000000 in
theorem spec_CircleOk (a1 a2 : Option Addr) (n1 c1 n2 c2 : Nat) (xs ps : List Int) (w : World) (hx : Sl w a1 n1 c1 xs) (hy : Sl w a2 n2 c2 ps) (hn2 : n2 ≤ 1048576) (hn1 : n1 ≤ 1048576) :
    Calls Tryd.prog 9 #[.slice a1 n1 c1, .slice a2 n2 c2] w fun e w' => e = .returned (.bool (circB xs ps)) ∧ Below w.heap.size w w' := by
  have kv := Lib.hid (fun wx hb => spec_RelValid a1 n1 c1 xs wx (hx.below (w' := wx) hb))
  have HX := Lib.hid hx
  have HY := Lib.hid hy
  obtain ⟨o, ho⟩ : ∃ o, o = circB xs ps := ⟨_, rfl⟩
  have HNo : Hid (¬ CircOk xs ps → o = false) := fun h9 => ho.trans (circB_no h9)
  have HYes : Hid (CircOk xs ps → o = true) := fun h9 => ho.trans (circB_true.2 h9)
  rw [← ho]
  clear hx hy ho
  rcases rel_tf xs with h1 | h1
  · rw [h1] at kv
    have hR := relB_true.1 h1
    have hn12 := hR.1
    rw [HX.out.1] at hn12
    obtain ⟨b, off, rfl, hat⟩ := HX.out.2.2.2 (by omega)
    have hbl : b < w.heap.size := hat.lt (by intro h9; have := HX.out.1; rw [h9] at this; simp at this; omega)
    have HA := Lib.hid hat
    have HR := Lib.hid hR
    clear h1 hR hat
    have hm1 : IntKind.i64.wrap ((n1 : Int) - 1) = (n1 : Int) - 1 := IntWalk.i64_in _ (by omega)
    go_enter Tryd.func9, Tryd.ntmps9
    go_wp2_with fail
    go_loopw [5, 6] (fun v5 _ wr => ∃ k : Nat, k ≤ n2 ∧ v5 = .int .i64 k ∧ Hid (∀ j, j < k → (0 ≤ ps.getD j 0 ∧ ps.getD j 0 ≤ (n1 : Int) - 1) ∧ (rw' xs (pt ps j)).testBit (pt ps ((j + 1) % n2)) = true) ∧ Below w.heap.size w wr) (fun v5 _ _ => n2 - (intOf v5).toNat)
    case atStart => exact ⟨0, Nat.zero_le _, rfl, fun j hj => by omega, Below.refl _ _⟩
    case round =>
      obtain ⟨k, hk, rfl, HE, hb⟩ := hrel
      have Hb := Lib.hid hb
      have hwr := hb.size
      by_cases hlt : k < n2
      · have k1 := Lib.hid (kv.out wr hb)
        obtain ⟨b2, off2, rfl, hat2⟩ := HY.out.2.2.2 (by omega)
        have hbl2 : b2 < w.heap.size := hat2.lt (by intro h9; have := HY.out.1; rw [h9] at this; simp at this; omega)
        have hkn := next_lt hlt
        have hat2w := fun wx (h9 : Below w.heap.size w wx) => hat2.below h9 hbl2
        have HA2 := Lib.hid hat2w
        have hmod : ((k : Int) + 1).tmod (n2 : Int) = (((k + 1) % n2 : Nat) : Int) := by
          rw [Int.tmod_eq_emod_of_nonneg (by omega), Int.natCast_emod]; rfl
        have hn0 : ((n2 : Int) == 0) = false := by simp; omega
        obtain ⟨kn, hkn'⟩ : ∃ kn, kn = (k + 1) % n2 := ⟨_, rfl⟩
        rw [← hkn'] at hkn hmod
        have Hkn := Lib.hid hkn'
        have hkx : k < ps.length := by rw [HY.out.1]; exact hlt
        have hknx : kn < ps.length := by rw [HY.out.1]; exact hkn
        obtain ⟨x, hxx⟩ : ∃ x, x = ps.getD k 0 := ⟨_, rfl⟩
        obtain ⟨y, hyy⟩ : ∃ y, y = ps.getD kn 0 := ⟨_, rfl⟩
        have Hx := Lib.hid hxx
        have Hy := Lib.hid hyy
        have Hkx := Lib.hid hkx
        have Hknx := Lib.hid hknx
        clear hb hat2 hat2w hkn' hkx hknx
        go_wp2_with fail
        refine (k1.out).mono ?_
        rintro ee w2 ⟨rfl, hb2⟩
        have Hb2 := Lib.hid (Hb.out.trans (hb2.mono hwr))
        have y0 := (HA2.out w2 Hb2.out) k Hkx.out
        have y1 := (HA2.out w2 Hb2.out) kn Hknx.out
        rw [← Hx.out] at y0
        rw [← Hy.out] at y1
        clear hb2 hxx hyy
        by_cases hin : 0 ≤ x ∧ x ≤ (n1 : Int) - 1
        · have ci := Lib.hid (fun wx => l1In_yes x 0 ((n1 : Int) - 1) wx hin.1 hin.2)
          by_cases hin2 : 0 ≤ y ∧ y ≤ (n1 : Int) - 1
          · have cj := Lib.hid (fun wx => l1In_yes y 0 ((n1 : Int) - 1) wx hin2.1 hin2.2)
            obtain ⟨x', rfl⟩ := Int.eq_ofNat_of_zero_le hin.1
            obtain ⟨y', rfl⟩ := Int.eq_ofNat_of_zero_le hin2.1
            have hx1 : x' < n1 := by omega
            have hy1 : y' < n1 := by omega
            have y2 : w2.cell? ⟨b, off + x', none⟩ = some (.int .i64 (rw' xs x' : Nat)) := by
              have h9 := (HA.out.below Hb2.out hbl) x' (by rw [HX.out.1]; exact hx1)
              rw [h9, HR.out.row_int (by rw [HX.out.1]; exact hx1)]
            have HpX := Lib.hid (show pt ps k = x' by unfold pt; rw [← Hx.out]; simp)
            have HpY := Lib.hid (show pt ps ((k + 1) % n2) = y' by unfold pt; rw [← Hkn.out, ← Hy.out]; simp)
            obtain ⟨r, hr⟩ : ∃ r, r = rw' xs x' := ⟨_, rfl⟩
            rw [← hr] at y2
            have Hr := Lib.hid hr
            have hin' := Lib.hid hin
            clear hin hin2 hr
            rcases bit_tf r y' with hB | hB
            · have kb := Lib.hid (l7Bit_any r y' (by omega) w2)
              rw [bitI_1 hB] at kb
              have HE2 := Lib.hid (show ∀ j, j < k + 1 → (0 ≤ ps.getD j 0 ∧ ps.getD j 0 ≤ (n1 : Int) - 1) ∧ (rw' xs (pt ps j)).testBit (pt ps ((j + 1) % n2)) = true from fun j hj => by
                by_cases hjk : j = k
                · subst hjk
                  rw [HpX.out, HpY.out, ← Hr.out, ← Hx.out]
                  exact ⟨hin'.out, hB⟩
                · exact HE.out j (by omega))
              clear hB
              go_wp2_with fail
              refine (ci.out _).mono ?_
              rintro ee wx ⟨rfl, rfl⟩
              go_wp2_with fail
              refine (cj.out _).mono ?_
              rintro ee wx ⟨rfl, rfl⟩
              go_wp2_with fail
              refine (kb.out).mono ?_
              rintro ee wx ⟨rfl, rfl⟩
              go_wp2_with fail
              go_roundw
              case rel => exact ⟨k + 1, by omega, by go_num, HE2.out, Hb2.out⟩
              case measure => exact idx_measure hlt
            · have kb := Lib.hid (l7Bit_any r y' (by omega) w2)
              rw [bitI_0 hB] at kb
              obtain rfl := HNo.out (fun h9 => by
                have h8 := h9.2.2.2 kn Hknx.out
                rw [HY.out.1, Hkn.out, prv_next hlt, HpX.out, HpY.out, ← Hr.out, hB] at h8
                cases h8)
              clear hB
              go_wp2_with fail
              refine (ci.out _).mono ?_
              rintro ee wx ⟨rfl, rfl⟩
              go_wp2_with fail
              refine (cj.out _).mono ?_
              rintro ee wx ⟨rfl, rfl⟩
              go_wp2_with fail
              refine (kb.out).mono ?_
              rintro ee wx ⟨rfl, rfl⟩
              go_wp2_with fail
              go_ret
              exact ⟨rfl, Hb2.out⟩
          · have cj := Lib.hid (fun wx => l1In_no y 0 ((n1 : Int) - 1) wx (by omega))
            obtain rfl := HNo.out (fun h9 => by
              have h8 := upTo_get h9.2.2.1 Hknx.out
              rw [← Hy.out, HX.out.1] at h8
              exact hin2 h8)
            clear hin hin2
            go_wp2_with fail
            refine (ci.out _).mono ?_
            rintro ee wx ⟨rfl, rfl⟩
            go_wp2_with fail
            refine (cj.out _).mono ?_
            rintro ee wx ⟨rfl, rfl⟩
            go_wp2_with fail
            go_ret
            exact ⟨rfl, Hb2.out⟩
        · have ci := Lib.hid (fun wx => l1In_no x 0 ((n1 : Int) - 1) wx (by omega))
          obtain rfl := HNo.out (fun h9 => by
            have h8 := upTo_get h9.2.2.1 Hkx.out
            rw [← Hx.out, HX.out.1] at h8
            exact hin h8)
          clear hin
          go_wp2_with fail
          refine (ci.out _).mono ?_
          rintro ee wx ⟨rfl, rfl⟩
          go_wp2_with fail
          go_ret
          exact ⟨rfl, Hb2.out⟩
      · obtain rfl : k = n2 := by omega
        have k1 := Lib.hid (kv.out wr hb)
        by_cases h0 : 0 < k
        · have h0' : decide ((0 : Int) < (k : Int)) = true := by simp; omega
          obtain rfl := HYes.out ⟨HR.out, by rw [HY.out.1]; omega, by rw [HX.out.1]; exact upTo_all (fun j hj => (HE.out j (by rw [← HY.out.1]; exact hj)).1), fun j hj => by
            rw [HY.out.1] at hj ⊢
            have h9 := (HE.out (prv k j) (prv_lt hj)).2
            rw [next_prv hj] at h9
            exact h9⟩
          go_wp2_with fail
          refine (k1.out).mono ?_
          rintro ee w2 ⟨rfl, hb2⟩
          have Hb2 := Lib.hid (Hb.out.trans (hb2.mono hwr))
          clear hb2
          go_wp2_with fail
          go_ret
          exact ⟨rfl, Hb2.out⟩
        · have h0' : decide ((0 : Int) < (k : Int)) = false := by simp; omega
          obtain rfl := HNo.out (fun h9 => by have := h9.2.1; rw [HY.out.1] at this; omega)
          go_wp2_with fail
          refine (k1.out).mono ?_
          rintro ee w2 ⟨rfl, hb2⟩
          have Hb2 := Lib.hid (Hb.out.trans (hb2.mono hwr))
          clear hb2
          go_wp2_with fail
          go_ret
          exact ⟨rfl, Hb2.out⟩
  · rw [h1] at kv
    obtain rfl := HNo.out (fun h9 => relB_false h1 h9.1)
    clear h1
    go_enter Tryd.func9, Tryd.ntmps9
    go_wp2_with fail
    go_loopw [5, 6] (fun v5 _ wr => v5 = .int .i64 0 ∧ w = wr) (fun _ _ _ => 0)
    case atStart => exact ⟨rfl, rfl⟩
    case round =>
      obtain ⟨rfl, rfl⟩ := hrel
      have k1 := Lib.hid (kv.out w (Below.refl _ _))
      by_cases hn0 : 0 < n2
      · have hn0' : decide ((0 : Int) < (n2 : Int)) = true := by simp; omega
        go_wp2_with fail
        refine (k1.out).mono ?_
        rintro ee w2 ⟨rfl, hb2⟩
        have Hb2 := Lib.hid hb2
        have k2 := Lib.hid (kv.out w2 hb2)
        clear hb2
        go_wp2_with fail
        refine (k2.out).mono ?_
        rintro ee w3 ⟨rfl, hb3⟩
        have Hb3 := Lib.hid (Hb2.out.trans (hb3.mono Hb2.out.size))
        clear hb3
        go_wp2_with fail
        go_ret
        exact ⟨rfl, Hb3.out⟩
      · have hn0' : decide ((0 : Int) < (n2 : Int)) = false := by simp; omega
        go_wp2_with fail
        refine (k1.out).mono ?_
        rintro ee w2 ⟨rfl, hb2⟩
        have Hb2 := Lib.hid hb2
        clear hb2
        go_wp2_with fail
        go_ret
        exact ⟨rfl, Hb2.out⟩

end Go.Proofs.YtagdeifalkenhaaDoor
