/- The model's l1End tells where an ordinal of a row ends. -/
import Derived.Test.YtdcgcohfbcdnnaaEnd
import Derived.Test.YtdcgcohfbcdnnaaCmpS
namespace Go.Proofs.Ytdcgcohfbcdnnaa
set_option maxRecDepth 100000
open Go.RowKit

def BefS (w : World) (b : Nat) (p : Option T) (v : Value) : Prop :=
  match p with
  | none => True
  | some q => Bef w b (some q) v

set_option maxHeartbeats 2000000 in
theorem l1End_any (N : Nat) : ∀ (ao : Option Addr) (len cap a : Nat) (xs : List Int) (w : World), len - a < N → xs.length = len → len ≤ 60 → a ≤ 1000000000000 → len ≤ cap → cap ≤ maxLen →
    (0 < len → ∃ b off, ao = some ⟨b, off, none⟩ ∧ At w b off xs) →
    Calls Try.prog 99 #[.slice ao len cap, .int .i64 a] w fun e w' => ∃ r, e = .returned (.int .i64 r) ∧ ER xs a r ∧ Below w.heap.size w w' := by
  induction N with
  | zero => intro ao len cap a xs w hN; omega
  | succ N ih =>
    intro ao len cap a xs w hN hl hb hba hlc hcm hA
    have Hl := Lib.hid hl
    have HA := Lib.hid hA
    clear hl hA
    by_cases ha : a < len
    · obtain ⟨b, off, rfl, hat⟩ := HA.out (by omega)
      obtain ⟨x0, ys, hd0, hd1⟩ := drop_cons (xs := xs) (a := a) (by rw [Hl.out]; exact ha)
      have hc0 := hat.get hd0
      have Hd0 := Lib.hid hd0
      have Hd1 := Lib.hid hd1
      clear hd0 hd1
      by_cases hneg : x0 < 0 ∨ 60 < x0
      · have Hneg := Lib.hid hneg
        have hbo1 : decide (len ≤ a) = false := by simp; omega
        have ci := Lib.hid (l1In_no x0 0 60 w hneg)
        clear hneg
        go_enter Try.func99, Try.ntmps99
        go_wp2_with fail
        refine (ci.out).mono ?_
        rintro ee w' ⟨rfl, rfl⟩
        go_wp2_with fail
        go_ret
        refine ⟨_, rfl, .inl ⟨?_, rfl⟩, Below.refl _ _⟩
        rw [Hd0.out]
        rcases Hneg.out with h | h
        · exact T.oute_neg h
        · refine T.oute_big ?_
          have h2 := congrArg List.length Hd0.out
          rw [List.length_drop, Hl.out] at h2
          simp at h2
          omega
      · obtain ⟨m, rfl⟩ := Int.eq_ofNat_of_zero_le (show 0 ≤ x0 by omega)
        have hnn : 0 ≤ (m : Int) := by omega
        have hbo1 : decide (len ≤ a) = false := by simp; omega
        have ci := Lib.hid (l1In_yes (m : Int) 0 60 w hnn (by omega))
        clear hneg
        go_enter Try.func99, Try.ntmps99
        go_wp2_with fail
        refine (ci.out).mono ?_
        rintro ee w' ⟨rfl, rfl⟩
        go_wp2_with fail
        have hbw : b < w.heap.size := hat.lt (by intro h; have := Hd0.out; rw [h] at this; simp at this)
        go_loopw [1, 6, 7] (fun i v j wr => ∃ (c k : Nat) (p : Option T), a + 1 ≤ c ∧ c ≤ len ∧ k ≤ m ∧ k ≤ c ∧ Hid (T.out p (m - k) (xs.drop c) = T.out none m (xs.drop (a + 1)) ∧ (p = none ↔ k = 0)) ∧ i = .int .i64 c ∧ j = .int .i64 k ∧ BefS w b p v ∧ Below w.heap.size w wr) (fun i _ _ _ => len - (intOf i).toNat)
        case atStart => exact ⟨a + 1, 0, none, by omega, by omega, by omega, by omega, ⟨rfl, by simp⟩, by go_num, rfl, trivial, (Below.refl _ _).alloc (Nat.le_refl _) _⟩
        case round =>
          obtain ⟨c, k, p, hac, hcl, hkm, hkc, HU, rfl, rfl, hbef, hbr⟩ := hrel
          have hbad : T.out p (m - k) (xs.drop c) = -1 → ER xs a (-1) := fun h => .inl ⟨by rw [Hd0.out, T.oute_out, ← Hd1.out, ← HU.out.1, h], rfl⟩
          have Hbad := Lib.hid hbad
          have Hbr := Lib.hid hbr
          clear hbad
          by_cases hkm2 : k < m
          · by_cases hc : c < len
            · obtain ⟨x, ys, he0, he1⟩ := drop_cons (xs := xs) (a := c) (by rw [Hl.out]; exact hc)
              have hx := (hbr.cell (p := ⟨b, off + c, none⟩) hbw).trans (hat.get he0)
              have He0 := Lib.hid he0
              have He1 := Lib.hid he1
              clear he0 he1
              obtain ⟨k', hk'⟩ : ∃ k', m - k = k' + 1 := ⟨m - k - 1, by omega⟩
              have Hk := Lib.hid hk'
              clear hk'
              by_cases hr : x < 1 ∨ 9999 < x
              · have Hx := Lib.hid hr
                have ci2 := Lib.hid (l1In_no x 1 9999 wr hr)
                have hbo3 : decide (len ≤ c) = false := by simp; omega
                clear hr hbr
                go_wp2_with fail
                refine (ci2.out).mono ?_
                rintro ee w' ⟨rfl, rfl⟩
                go_wp2_with fail
                go_ret
                exact ⟨_, rfl, Hbad.out (by rw [Hk.out, He0.out]; exact T.out_bad _ _ _ _ Hx.out), Hbr.out⟩
              · have hr1 : 1 ≤ x := by omega
                have hr2 : x ≤ 9999 := by omega
                have ih2 := Lib.hid (ih (some ⟨b, off, none⟩) len cap (c + 1) xs wr (by omega) Hl.out hb (by omega) hlc hcm (fun _ => ⟨b, off, rfl, hat.below hbr hbw⟩))
                have ci2 := Lib.hid (l1In_yes x 1 9999 wr hr1 hr2)
                have hbo3 : decide (len ≤ c) = false := by simp; omega
                clear hr hbr
                go_wp2_with fail
                refine (ci2.out).mono ?_
                rintro ee w' ⟨rfl, rfl⟩
                go_wp2_with fail
                refine (ih2.out).mono ?_
                rintro ee w1 ⟨r, rfl, hER, hb1⟩
                rcases hER with ⟨q1, rfl⟩ | ⟨e, rest, q1, q2, rfl⟩
                · have H1 := Lib.hid q1
                  have Hb2 := Lib.hid (Hbr.out.trans (hb1.mono Hbr.out.size))
                  clear q1 hb1
                  go_wp2_with fail
                  go_ret
                  exact ⟨_, rfl, Hbad.out (by rw [Hk.out, He0.out]; exact T.out_noexp _ _ _ _ (by rw [← He1.out]; exact H1.out)), Hb2.out⟩
                · have hee := T.enc_len e
                  have hend := drop_len q1 (by simp [T.enc])
                  rw [List.length_append, Hl.out] at hend
                  have hel : c + 1 + e.enc.length ≤ len := by omega
                  have hpos : 1 ≤ e.enc.length := by omega
                  have hate : At w b (off + (c + 1)) e.enc := (q1 ▸ hat.drop (c + 1)).left
                  have Hate := Lib.hid hate
                  have Hq1 := Lib.hid q1
                  have Hq2 := Lib.hid q2
                  have Hb2 := Lib.hid (Hbr.out.trans (hb1.mono Hbr.out.size))
                  have Hdr := Lib.hid (drop_app q1)
                  have hne : ¬ ((c : Int) + 1 + e.enc.length < 0) := by omega
                  have hys : ys = e.enc ++ rest := by rw [← He1.out]; exact q1
                  have Hys := Lib.hid hys
                  clear q1 q2 hee hend hate hb1 hys
                  cases p with
                  | none =>
                    have hk0 : k = 0 := HU.out.2.1 rfl
                    subst hk0
                    go_wp2_with fail
                    go_roundw
                    case rel =>
                      refine ⟨c + 1 + e.enc.length, 1, some e, by omega, by omega, by omega, by omega, ⟨?_, by simp⟩, by go_num, by go_num, ⟨off + (c + 1), cap - (c + 1), by rw [Nat.add_sub_cancel_left], Hate.out, by omega, by omega, by omega⟩, Hb2.out⟩
                      rw [← HU.out.1, He0.out, Hk.out, Hys.out, T.out_step none k' x e rest hr1 hr2 Hq2.out (fun q h => by cases h), Hdr.out]
                      rw [show m - 1 = k' by have := Hk.out; omega]
                    case measure => simp [intOf]; omega
                  | some q =>
                    have hk0 : 0 < k := by
                      have := HU.out.2
                      simp at this
                      omega
                    obtain ⟨off', cap', rfl, hatq, hq1, hq2, hql⟩ := hbef
                    have cc := Lib.hid (l1Compare_any (e.body.length + 1) b (off + (c + 1)) (cap - (c + 1)) b off' cap' e.enc.length q.enc.length e q w1 (by omega) rfl rfl (by omega) hql (by omega) (by omega) hq1 hq2 (Hate.out.below Hb2.out hbw) (hatq.below Hb2.out hbw))
                    clear hatq
                    go_wp2_with fail
                    refine (cc.out).mono ?_
                    rintro ee w3 ⟨rfl, hb3⟩
                    have Hb3 := Lib.hid (Hb2.out.trans (hb3.mono Hb2.out.size))
                    clear hb3
                    by_cases hcmp : e.cmp q = -1
                    · have hge : decide (0 ≤ e.cmp q) = false := by rw [hcmp]; rfl
                      have Hcmp := Lib.hid hcmp
                      clear hcmp
                      go_wp2_with fail
                      go_roundw
                      case rel =>
                        refine ⟨c + 1 + e.enc.length, k + 1, some e, by omega, by omega, by omega, by omega, ⟨?_, by simp⟩, by go_num, by go_num, ⟨off + (c + 1), cap - (c + 1), by rw [Nat.add_sub_cancel_left], Hate.out, by omega, by omega, by omega⟩, Hb3.out⟩
                        rw [← HU.out.1, He0.out, Hk.out, Hys.out, T.out_step (some q) k' x e rest hr1 hr2 Hq2.out (fun q' h => by cases h; exact Hcmp.out), Hdr.out]
                        rw [show m - (k + 1) = k' by have := Hk.out; omega]
                      case measure => simp [intOf]; omega
                    · have hge : decide (0 ≤ e.cmp q) = true := by have := T.cmp_vals e q; simp; omega
                      have Hcmp := Lib.hid hcmp
                      clear hcmp
                      go_wp2_with fail
                      go_ret
                      exact ⟨_, rfl, Hbad.out (by rw [Hk.out, He0.out, Hys.out]; exact T.out_order _ _ _ _ _ Hcmp.out), Hb3.out⟩
            · have hge : len ≤ c := by omega
              clear hbr
              go_wp2_with fail
              go_ret
              exact ⟨_, rfl, Hbad.out (by rw [List.drop_eq_nil_of_le (by rw [Hl.out]; exact hge), show m - k = (m - k - 1) + 1 by omega]; exact T.out_nil _ _), Hbr.out⟩
          · have hke : m ≤ k := by omega
            clear hbr
            go_wp2_with fail
            go_ret
            refine ⟨_, rfl, ER.of_len ?_ (by rw [Hl.out]; exact hcl), Hbr.out⟩
            have := HU.out.1
            rw [show m - k = 0 by omega, T.out_zero, List.length_drop] at this
            rw [Hd0.out, T.oute_out, ← Hd1.out, ← this, Hl.out]
            omega
    · have hge : len ≤ a := by omega
      go_enter Try.func99, Try.ntmps99
      go_wp2_with fail
      go_ret
      exact ⟨_, rfl, .inl ⟨by rw [List.drop_eq_nil_of_le (by rw [Hl.out]; exact hge)]; exact T.oute_nil, rfl⟩, Below.refl _ _⟩

end Go.Proofs.Ytdcgcohfbcdnnaa
