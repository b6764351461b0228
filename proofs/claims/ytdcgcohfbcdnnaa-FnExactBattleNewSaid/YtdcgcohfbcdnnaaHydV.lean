/- HydraValid and HydraHeads, the program's and the model's: the same answers to the same row. -/
import Derived.Test.YtdcgcohfbcdnnaaHyd
import Derived.Test.YtdcgcohfbcdnnaaLawKit
namespace Go.Proofs.Ytdcgcohfbcdnnaa
set_option maxRecDepth 100000
open Go.RowKit

set_option maxHeartbeats 2000000 in
theorem impl_HydraValid (ao : Option Addr) (len cap : Nat) (xs : List Int) (w : World) (h : Sl w ao len cap xs) :
    Calls Try.prog 56 #[.slice ao len cap] w fun e w' => e = .returned (.bool (H.hvB xs)) ∧ w = w' := by
  obtain ⟨h1, h2, h3, h4⟩ := h
  by_cases h60 : len ≤ 60
  · have H1 := Lib.hid h1
    have H4 := Lib.hid h4
    have hd : ¬ 60 < len := by omega
    obtain ⟨o, ho⟩ : ∃ o, o = H.hvB xs := ⟨_, rfl⟩
    have hyes : H.Fits 1 xs → o = true := fun h => by rw [ho]; exact H.hvB_true.2 ((H.hv_fits (by omega)).2 h)
    have hno : ¬ H.Fits 1 xs → o = false := fun h => by rw [ho]; exact H.hvB_false.2 (fun h' => h ((H.hv_fits (by omega)).1 h'))
    rw [← ho]
    have Hyes := Lib.hid hyes
    have Hno := Lib.hid hno
    clear h1 h4 ho hyes hno
    go_enter Try.func56, Try.ntmps56
    go_wp2_with fail
    go_loop [3, 11] (fun v3 v11 => ∃ (i m : Nat), i ≤ len ∧ m ≤ 60 * i + 1 ∧ Hid (H.Fits m (xs.drop i) ↔ H.Fits 1 xs) ∧ v3 = .int .i64 m ∧ v11 = .int .i64 i) (fun _ i => len - (intOf i).toNat)
    case atStart => exact ⟨0, 1, Nat.zero_le _, by omega, ⟨fun h => h, fun h => h⟩, rfl, rfl⟩
    case round =>
      obtain ⟨i, m, hi, hm, HU, rfl, rfl⟩ := hrel
      by_cases hlt : i < len
      · obtain ⟨b, off, rfl, hat⟩ := H4.out (by omega)
        obtain ⟨x, ys, hd0, hd1⟩ := drop_cons (xs := xs) (a := i) (by rw [H1.out]; exact hlt)
        have hc0 := hat.get hd0
        have hyl : ys.length < 60 := by
          have h2 := congrArg List.length hd0
          rw [List.length_drop, H1.out] at h2
          simp at h2
          omega
        have Hd0 := Lib.hid hd0
        have Hd1 := Lib.hid hd1
        clear hd0 hd1
        by_cases hm0 : m = 0
        · subst hm0
          have hoF := Hno.out (fun h => by have := HU.out.2 h; rw [Hd0.out, H.fits_zero] at this; cases this)
          subst hoF
          have hz : (((0 : Nat) : Int) == 0) = true := rfl
          go_wp2_with fail
          go_ret
          exact ⟨rfl, rfl⟩
        · have hmz : ((m : Int) == 0) = false := by simp; omega
          obtain ⟨m', rfl⟩ : ∃ m', m = m' + 1 := ⟨m - 1, by omega⟩
          by_cases hx0 : x < 0
          · have hoF := Hno.out (fun h => by have := HU.out.2 h; rw [Hd0.out] at this; exact H.fits_neg hx0 this)
            subst hoF
            go_wp2_with fail
            go_ret
            exact ⟨rfl, rfl⟩
          · have hx0' : decide (x < 0) = false := by simpa using hx0
            by_cases hx6 : 60 < x
            · have hoF := Hno.out (fun h => by have := HU.out.2 h; rw [Hd0.out] at this; exact H.fits_big (by omega) this)
              subst hoF
              go_wp2_with fail
              go_ret
              exact ⟨rfl, rfl⟩
            · obtain ⟨j, rfl⟩ := Int.eq_ofNat_of_zero_le (show 0 ≤ x by omega)
              have hx6' : decide ((60 : Int) < (j : Int)) = false := by simpa using hx6
              go_wp2_with fail
              go_round
              case rel => exact ⟨i + 1, m' + j, by omega, by omega, ⟨fun h => HU.out.1 (by rw [Hd0.out]; rw [Hd1.out] at h; exact H.fits_cons.2 h), fun h => by have := HU.out.2 h; rw [Hd0.out] at this; rw [Hd1.out]; exact H.fits_cons.1 this⟩, by go_num, by go_num⟩
              case measure => simp [intOf]; omega
      · obtain rfl : i = len := by omega
        have hnil : xs.drop i = [] := List.drop_eq_nil_of_le (by rw [H1.out]; exact Nat.le_refl _)
        have hfin : (decide ((m : Int) = 0) = o) := by
          by_cases hm0 : m = 0
          · rw [Hyes.out (HU.out.1 (by rw [hnil]; exact H.fits_nil.2 hm0)), hm0]; rfl
          · rw [Hno.out (fun h => hm0 (by have := HU.out.2 h; rw [hnil] at this; exact H.fits_nil.1 this))]
            simpa using hm0
        have Hf := Lib.hid hfin
        clear hnil hfin
        go_wp2_with fail
        go_ret
        exact ⟨by rw [← Hf.out]; rfl, rfl⟩
  · have hd : 60 < len := by omega
    have hv : H.hvB xs = false := H.hvB_false.2 (fun hv => h60 (by rw [← h1]; exact hv.1))
    rw [hv]
    clear h1 h4 hv
    go_enter Try.func56, Try.ntmps56
    go_wp2_with fail
    go_ret
    exact ⟨rfl, rfl⟩

/-- Where a tree ends that begins at a place, -1 if there is none. -/
def HE (xs : List Int) (a : Nat) (r : Int) : Prop :=
  (H.out 1 (xs.drop a) = -1 ∧ r = -1) ∨ ∃ (f : H) (rest : List Int), xs.drop a = f.enc ++ rest ∧ r = (a + f.enc.length : Nat)

theorem HE.of_len {xs : List Int} {a c : Nat} (h : H.out 1 (xs.drop a) = (xs.length : Int) - c) (hc : c ≤ xs.length) : HE xs a c := by
  right
  rcases H.out_cases 1 (xs.drop a) with h1 | ⟨g, rest, h1, h2, h3⟩
  · omega
  · obtain ⟨f, r, rfl, hr⟩ := H.cnt_succ h2
    obtain rfl := H.cnt_zero hr
    rw [H.body_c] at h1
    simp only [H.body, List.append_nil] at h1
    refine ⟨f, rest, h1, ?_⟩
    have := drop_len h1 (by simp [H.enc])
    simp at this
    omega

set_option maxHeartbeats 2000000 in
theorem l5End_any (N : Nat) : ∀ (ao : Option Addr) (len cap a : Nat) (xs : List Int) (w : World), len - a < N → xs.length = len → len ≤ 60 → a ≤ 1000000000000 →
    (0 < len → ∃ b off, ao = some ⟨b, off, none⟩ ∧ At w b off xs) →
    Calls Try.prog 68 #[.slice ao len cap, .int .i64 a] w fun e w' => ∃ r, e = .returned (.int .i64 r) ∧ HE xs a r ∧ w = w' := by
  induction N with
  | zero => intro ao len cap a xs w hN; omega
  | succ N ih =>
    intro ao len cap a xs w hN hl hb hba hA
    have Hl := Lib.hid hl
    have HA := Lib.hid hA
    clear hl hA
    by_cases ha : a < len
    · obtain ⟨b, off, rfl, hat⟩ := HA.out (by omega)
      obtain ⟨x0, ys, hd0, hd1⟩ := drop_cons (xs := xs) (a := a) (by rw [Hl.out]; exact ha)
      have hc0 := hat.get hd0
      have hyl : ys.length < 60 := by
        have h2 := congrArg List.length hd0
        rw [List.length_drop, Hl.out] at h2
        simp at h2
        omega
      have Hd0 := Lib.hid hd0
      have Hd1 := Lib.hid hd1
      clear hd0 hd1
      have hbo1 : decide (len ≤ a) = false := by simp; omega
      by_cases hneg : x0 < 0 ∨ 60 < x0
      · have Hneg := Lib.hid hneg
        have ci := Lib.hid (l1In_no x0 0 60 w hneg)
        clear hneg
        go_enter Try.func68, Try.ntmps68
        go_wp2_with fail
        refine (ci.out).mono ?_
        rintro ee w' ⟨rfl, rfl⟩
        go_wp2_with fail
        go_ret
        refine ⟨_, rfl, .inl ⟨?_, rfl⟩, rfl⟩
        rw [Hd0.out]
        rcases Hneg.out with h | h
        · exact H.out_neg h
        · exact H.out_big (by omega)
      · obtain ⟨m, rfl⟩ := Int.eq_ofNat_of_zero_le (show 0 ≤ x0 by omega)
        have hm60 : m ≤ 60 := by omega
        have ci := Lib.hid (l1In_yes (m : Int) 0 60 w (by omega) (by omega))
        clear hneg
        have hout : H.out 1 (xs.drop a) = H.out m (xs.drop (a + 1)) := by rw [Hd0.out, Hd1.out, H.out_head]
        have Hout := Lib.hid hout
        clear hout
        go_enter Try.func68, Try.ntmps68
        go_wp2_with fail
        refine (ci.out).mono ?_
        rintro ee w' ⟨rfl, rfl⟩
        go_wp2_with fail
        go_loop [1, 6] (fun v1 v6 => ∃ (k : Nat), k ≤ m ∧ v6 = .int .i64 k ∧ ((v1 = .int .i64 (-1) ∧ Hid (H.out m (xs.drop (a + 1)) = -1)) ∨ ∃ c : Nat, a + 1 ≤ c ∧ c ≤ len ∧ v1 = .int .i64 c ∧ Hid (H.out (m - k) (xs.drop c) = H.out m (xs.drop (a + 1))))) (fun _ j => m - (intOf j).toNat)
        case atStart => exact ⟨0, Nat.zero_le _, rfl, .inr ⟨a + 1, Nat.le_refl _, by omega, by go_num, rfl⟩⟩
        case round =>
          obtain ⟨k, hk, rfl, ⟨rfl, HU⟩ | ⟨c, hac, hcl, rfl, HU⟩⟩ := hrel
          · by_cases hlt : k < m
            · have hng : decide ((0 : Int) ≤ -1) = false := by decide
              go_wp2_with fail
              go_ret
              exact ⟨_, rfl, .inl ⟨by rw [Hout.out]; exact HU.out, rfl⟩, rfl⟩
            · have hng : decide ((k : Int) < (m : Int)) = false := by simp; omega
              go_wp2_with fail
              go_ret
              exact ⟨_, rfl, .inl ⟨by rw [Hout.out]; exact HU.out, rfl⟩, rfl⟩
          · by_cases hlt : k < m
            · have ih2 := Lib.hid (ih (some ⟨b, off, none⟩) len cap c xs w (by omega) Hl.out hb (by omega) (fun _ => ⟨b, off, rfl, hat⟩))
              have hc0' : (0 : Int) ≤ (c : Int) := by omega
              go_wp2_with fail
              refine (ih2.out).mono ?_
              rintro ee w1 ⟨r, rfl, hER, rfl⟩
              rcases hER with ⟨q1, rfl⟩ | ⟨e, rest, q1, rfl⟩
              · have Q1 := Lib.hid q1
                clear q1
                go_wp2_with fail
                go_round
                case rel => exact ⟨k + 1, by omega, by go_num, .inl ⟨rfl, by rw [← HU.out, show m - k = (m - k - 1) + 1 by omega]; exact H.out_no Q1.out⟩⟩
                case measure => simp [intOf]; omega
              · have hend := drop_len q1 (by simp [H.enc])
                rw [List.length_append, Hl.out] at hend
                have Q1 := Lib.hid q1
                have Q2 := Lib.hid (drop_app q1)
                have hel : c + e.enc.length ≤ len := by omega
                clear q1 hend
                go_wp2_with fail
                go_round
                case rel => exact ⟨k + 1, by omega, by go_num, .inr ⟨c + e.enc.length, by omega, by omega, by go_num, by rw [← HU.out, show m - k = (m - (k + 1)) + 1 by omega, H.out_one Q1.out, Q2.out]; exact rfl⟩⟩
                case measure => simp [intOf]; omega
            · have hng : decide ((k : Int) < (m : Int)) = false := by simp; omega
              obtain rfl : k = m := by omega
              go_wp2_with fail
              go_ret
              refine ⟨_, rfl, HE.of_len ?_ (by rw [Hl.out]; exact hcl), rfl⟩
              have := HU.out
              rw [Nat.sub_self, H.out_zero, List.length_drop] at this
              rw [Hout.out, ← this, Hl.out]
              omega
    · have hge : len ≤ a := by omega
      go_enter Try.func68, Try.ntmps68
      go_wp2_with fail
      go_ret
      exact ⟨_, rfl, .inl ⟨by rw [List.drop_eq_nil_of_le (by rw [Hl.out]; exact hge)]; exact H.out_nil 0, rfl⟩, rfl⟩

theorem hv_of_HE {xs : List Int} {r : Int} (h60 : xs.length ≤ 60) (h : HE xs 0 r) : (r == (xs.length : Int)) = H.hvB xs := by
  have h1 : r = xs.length ↔ H.Hv xs := by
    rw [H.hv_out h60]
    rcases h with ⟨h1, rfl⟩ | ⟨f, rest, h1, rfl⟩
    · rw [List.drop_zero] at h1
      rw [h1]
      constructor <;> intro h <;> omega
    · rw [List.drop_zero] at h1
      rw [H.out_one (k := 0) h1, H.out_zero]
      have := congrArg List.length h1
      rw [List.length_append] at this
      constructor <;> intro h <;> omega
  by_cases hv : H.Hv xs
  · rw [H.hvB_true.2 hv]; simpa using h1.2 hv
  · rw [H.hvB_false.2 hv]
    have : ¬ r = xs.length := fun h => hv (h1.1 h)
    simpa using this

theorem spec_HydraValid (ao : Option Addr) (len cap : Nat) (xs : List Int) (w : World) (h : Sl w ao len cap xs) :
    Calls Try.prog 47 #[.slice ao len cap] w fun e w' => e = .returned (.bool (H.hvB xs)) ∧ w = w' := by
  obtain ⟨h1, h2, h3, h4⟩ := h
  by_cases h60 : 1 ≤ len ∧ len ≤ 60
  · have c : Calls Try.prog 68 #[.slice ao len cap, .int .i64 0] w fun e w' => ∃ r, e = .returned (.int .i64 r) ∧ HE xs 0 r ∧ w = w' := by
      simpa using l5End_any (len + 1) ao len cap 0 xs w (by omega) h1 (by omega) (by omega) h4
    have C := Lib.hid c
    have H1 := Lib.hid h1
    have ci := Lib.hid (l1In_yes (len : Int) 1 60 w (by omega) (by omega))
    clear c h1 h4
    go_enter Try.func47, Try.ntmps47
    go_wp2_with fail
    refine (ci.out).mono ?_
    rintro ee w' ⟨rfl, rfl⟩
    go_wp2_with fail
    refine (C.out).mono ?_
    rintro ee w' ⟨r, rfl, hER, rfl⟩
    have he := hv_of_HE (by rw [H1.out]; exact h60.2) hER
    rw [H1.out] at he
    have He := Lib.hid he
    clear he hER
    go_wp2_with fail
    go_ret
    exact ⟨by rw [He.out]; rfl, rfl⟩
  · have ci := Lib.hid (l1In_no (len : Int) 1 60 w (by omega))
    have hv : H.hvB xs = false := H.hvB_false.2 (fun hv => h60 (by
      obtain ⟨q1, f, q2⟩ := hv
      rw [← h1]
      refine ⟨?_, q1⟩
      rw [q2, H.enc_len]; omega))
    have H1 := Lib.hid hv
    clear h1 h4 hv
    go_enter Try.func47, Try.ntmps47
    go_wp2_with fail
    refine (ci.out).mono ?_
    rintro ee w' ⟨rfl, rfl⟩
    go_wp2_with fail
    go_ret
    exact ⟨by rw [H1.out]; rfl, rfl⟩

theorem H.noughts_snoc (xs : List Int) (k : Nat) (h : k < xs.length) : H.noughts (xs.take (k + 1)) = H.noughts (xs.take k) + (if xs.getD k 0 = 0 then 1 else 0) := by
  have h1 : xs.take (k + 1) = xs.take k ++ [xs.getD k 0] := by
    rw [List.take_succ_eq_append_getElem h]
    simp [List.getD, h]
  rw [h1, H.noughts_app]
  simp [H.noughts]

set_option maxHeartbeats 2000000 in
theorem impl_HydraHeads (ao : Option Addr) (len cap : Nat) (xs : List Int) (w : World) (h : Sl w ao len cap xs) :
    Calls Try.prog 52 #[.slice ao len cap] w fun e w' => e = .returned (.int .i64 (H.headsRow xs)) ∧ w = w' := by
  have k1 := Lib.hid (impl_HydraValid ao len cap xs w h)
  rcases H.hv_tf xs with hv | hv
  · obtain ⟨f, he, h60, _⟩ := H.hv_of hv
    have hr : H.headsRow xs = (H.noughts (xs.drop 1) : Int) := by rw [H.headsRow, if_pos hv]
    rw [hr]
    rw [hv] at k1
    obtain ⟨h1, h2, h3, h4⟩ := h
    have hp : 1 ≤ len := by rw [← h1, he, H.enc_len]; omega
    have h60' : len ≤ 60 := by rw [← h1, he]; exact h60
    obtain ⟨b, off, rfl, hat⟩ := h4 (by omega)
    have hat1 : At w b (off + 1) (xs.drop 1) := hat.drop 1
    have hl1 : (xs.drop 1).length = len - 1 := by rw [List.length_drop, h1]
    obtain ⟨ys, hys⟩ : ∃ ys, ys = xs.drop 1 := ⟨_, rfl⟩
    rw [← hys] at hat1 hl1 ⊢
    have Hl := Lib.hid hl1
    have HA := Lib.hid hat1
    clear h1 h4 hat he h60 hv hr hys hl1 hat1
    go_enter Try.func52, Try.ntmps52
    go_wp2_with fail
    refine (k1.out).mono ?_
    rintro ee w' ⟨rfl, rfl⟩
    go_wp2_with fail
    · obtain rfl : len = 1 := by omega
      have hy : ys = [] := by have := Hl.out; cases ys with
        | nil => rfl
        | cons x r => simp at this
      subst hy
      go_loop [3, 12] (fun v3 v12 => v3 = .int .i64 0 ∧ v12 = .int .i64 0) (fun _ _ => 0)
      case atStart => exact ⟨rfl, rfl⟩
      case round =>
        obtain ⟨rfl, rfl⟩ := hrel
        go_wp2_with fail
        go_ret
        exact ⟨rfl, rfl⟩
    · go_loop [3, 12] (fun v3 v12 => ∃ (i n : Nat), i ≤ len - 1 ∧ n ≤ i ∧ Hid (n = H.noughts (ys.take i)) ∧ v3 = .int .i64 n ∧ v12 = .int .i64 i) (fun _ i => len - 1 - (intOf i).toNat)
      case atStart => exact ⟨0, 0, Nat.zero_le _, Nat.le_refl _, rfl, rfl, rfl⟩
      case round =>
        obtain ⟨i, n, hi, hn, HU, rfl, rfl⟩ := hrel
        by_cases hlt : i < len - 1
        · have hc := HA.out i (by rw [Hl.out]; exact hlt)
          have hsn := H.noughts_snoc ys i (by rw [Hl.out]; exact hlt)
          obtain ⟨x, hx⟩ : ∃ x, x = ys.getD i 0 := ⟨_, rfl⟩
          rw [← hx] at hc hsn
          rw [← HU.out] at hsn
          have Hsn := Lib.hid hsn
          clear hx hsn
          by_cases hx0 : x = 0
          · subst hx0
            have hz : ((0 : Int) == 0) = true := rfl
            go_wp2_with fail
            go_round
            case rel => exact ⟨i + 1, n + 1, by omega, by omega, by rw [Hsn.out]; rfl, by go_num, by go_num⟩
            case measure => simp [intOf]; omega
          · have hz : (x == 0) = false := by simpa using hx0
            go_wp2_with fail
            go_round
            case rel => exact ⟨i + 1, n, by omega, by omega, by rw [Hsn.out, if_neg hx0]; rfl, rfl, by go_num⟩
            case measure => simp [intOf]; omega
        · have hie : i = len - 1 := by omega
          have hfin : n = H.noughts ys := by rw [HU.out, List.take_of_length_le (by rw [Hl.out]; omega)]
          have Hf := Lib.hid hfin
          clear hfin
          go_wp2_with fail
          go_ret
          exact ⟨ret_int (by rw [Hf.out]), rfl⟩
  · have hr : H.headsRow xs = -1 := by rw [H.headsRow, if_neg (by rw [hv]; simp)]
    rw [hr]
    rw [hv] at k1
    clear h hv hr
    go_enter Try.func52, Try.ntmps52
    go_wp2_with fail
    refine (k1.out).mono ?_
    rintro ee w' ⟨rfl, rfl⟩
    go_wp2_with fail
    go_ret
    exact ⟨rfl, rfl⟩

set_option maxHeartbeats 2000000 in
theorem spec_HydraHeads (ao : Option Addr) (len cap : Nat) (xs : List Int) (w : World) (h : Sl w ao len cap xs) :
    Calls Try.prog 49 #[.slice ao len cap] w fun e w' => e = .returned (.int .i64 (H.headsRow xs)) ∧ w = w' := by
  have k1 := Lib.hid (spec_HydraValid ao len cap xs w h)
  rcases H.hv_tf xs with hv | hv
  · obtain ⟨f, he, h60, _⟩ := H.hv_of hv
    have hr : H.headsRow xs = (H.noughts (xs.drop 1) : Int) := by rw [H.headsRow, if_pos hv]
    rw [hr]
    rw [hv] at k1
    obtain ⟨h1, h2, h3, h4⟩ := h
    have hp : 1 ≤ len := by rw [← h1, he, H.enc_len]; omega
    have h60' : len ≤ 60 := by rw [← h1, he]; exact h60
    obtain ⟨b, off, rfl, hat⟩ := h4 (by omega)
    have hat1 : At w b (off + 1) (xs.drop 1) := hat.drop 1
    have hl1 : (xs.drop 1).length = len - 1 := by rw [List.length_drop, h1]
    obtain ⟨ys, hys⟩ : ∃ ys, ys = xs.drop 1 := ⟨_, rfl⟩
    rw [← hys] at hat1 hl1 ⊢
    have Hl := Lib.hid hl1
    have HA := Lib.hid hat1
    clear h1 h4 hat he h60 hv hr hys hl1 hat1
    go_enter Try.func49, Try.ntmps49
    go_wp2_with fail
    refine (k1.out).mono ?_
    rintro ee w' ⟨rfl, rfl⟩
    go_wp2_with fail
    go_loop [3, 4] (fun v3 v4 => ∃ (i n : Nat), i ≤ len - 1 ∧ n ≤ i ∧ Hid (n = H.noughts (ys.take i)) ∧ v3 = .int .i64 n ∧ v4 = .int .i64 ((1 + i : Nat) : Int)) (fun _ i => len - (intOf i).toNat)
    case atStart => exact ⟨0, 0, Nat.zero_le _, Nat.le_refl _, rfl, rfl, rfl⟩
    case round =>
      obtain ⟨i, n, hi, hn, HU, rfl, rfl⟩ := hrel
      by_cases hlt : 1 + i < len
      · have hc := HA.out i (by rw [Hl.out]; omega)
        have hsn := H.noughts_snoc ys i (by rw [Hl.out]; omega)
        obtain ⟨x, hx⟩ : ∃ x, x = ys.getD i 0 := ⟨_, rfl⟩
        rw [← hx] at hc hsn
        rw [← HU.out] at hsn
        rw [show off + 1 + i = off + (1 + i) by omega] at hc
        have Hsn := Lib.hid hsn
        clear hx hsn
        by_cases hx0 : x = 0
        · subst hx0
          have hz : ((0 : Int) == 0) = true := rfl
          go_wp2_with fail
          go_round
          case rel => exact ⟨i + 1, n + 1, by omega, by omega, by rw [Hsn.out]; rfl, by go_num, by go_num⟩
          case measure => simp [intOf]; omega
        · have hz : (x == 0) = false := by simpa using hx0
          go_wp2_with fail
          go_round
          case rel => exact ⟨i + 1, n, by omega, by omega, by rw [Hsn.out, if_neg hx0]; rfl, rfl, by go_num⟩
          case measure => simp [intOf]; omega
      · have hie : i = len - 1 := by omega
        have hfin : n = H.noughts ys := by rw [HU.out, List.take_of_length_le (by rw [Hl.out]; omega)]
        have Hf := Lib.hid hfin
        clear hfin
        go_wp2_with fail
        go_ret
        exact ⟨ret_int (by rw [Hf.out]), rfl⟩
  · have hr : H.headsRow xs = -1 := by rw [H.headsRow, if_neg (by rw [hv]; simp)]
    rw [hr]
    rw [hv] at k1
    clear h hv hr
    go_enter Try.func49, Try.ntmps49
    go_wp2_with fail
    refine (k1.out).mono ?_
    rintro ee w' ⟨rfl, rfl⟩
    go_wp2_with fail
    go_ret
    exact ⟨rfl, rfl⟩
theorem impl_HydraValid_b (ao : Option Addr) (len cap : Nat) (xs : List Int) (w : World) (h : Sl w ao len cap xs) :
    Calls Try.prog 56 #[.slice ao len cap] w fun e w' => e = .returned (.bool (H.hvB xs)) ∧ Below w.heap.size w w' :=
  (impl_HydraValid ao len cap xs w h).mono (by rintro _ _ ⟨rfl, rfl⟩; exact ⟨rfl, Below.refl _ _⟩)
theorem spec_HydraValid_b (ao : Option Addr) (len cap : Nat) (xs : List Int) (w : World) (h : Sl w ao len cap xs) :
    Calls Try.prog 47 #[.slice ao len cap] w fun e w' => e = .returned (.bool (H.hvB xs)) ∧ Below w.heap.size w w' :=
  (spec_HydraValid ao len cap xs w h).mono (by rintro _ _ ⟨rfl, rfl⟩; exact ⟨rfl, Below.refl _ _⟩)
theorem impl_HydraHeads_b (ao : Option Addr) (len cap : Nat) (xs : List Int) (w : World) (h : Sl w ao len cap xs) :
    Calls Try.prog 52 #[.slice ao len cap] w fun e w' => e = .returned (.int .i64 (H.headsRow xs)) ∧ Below w.heap.size w w' :=
  (impl_HydraHeads ao len cap xs w h).mono (by rintro _ _ ⟨rfl, rfl⟩; exact ⟨rfl, Below.refl _ _⟩)
theorem spec_HydraHeads_b (ao : Option Addr) (len cap : Nat) (xs : List Int) (w : World) (h : Sl w ao len cap xs) :
    Calls Try.prog 49 #[.slice ao len cap] w fun e w' => e = .returned (.int .i64 (H.headsRow xs)) ∧ Below w.heap.size w w' :=
  (spec_HydraHeads ao len cap xs w h).mono (by rintro _ _ ⟨rfl, rfl⟩; exact ⟨rfl, Below.refl _ _⟩)
end Go.Proofs.Ytdcgcohfbcdnnaa
