/- Cutting heads off hydras, on trees; the model's l5Heads. -/
import Derived.Test.YtdcgcohfbcdnnaaHydO
import Derived.Test.YtdcgcohfbcdnnaaHydV
namespace Go.Proofs.Ytdcgcohfbcdnnaa
set_option maxRecDepth 100000
open Go.RowKit
namespace H
/-- How many heads a branch ends in. -/
def heads (k : H) : Int := noughts k.enc
theorem heads_pos (k : H) : 1 ≤ heads k := by
  have h : ∀ f : H, 1 ≤ noughts f.enc := by
    intro f
    induction f with
    | z => simp [enc, cnt, body, noughts]
    | c k r ihk _ =>
      have e : (c k r).enc = ((c k r).cnt : Int) :: (k.enc ++ r.body) := by rw [← body_c]; rfl
      rw [e, noughts, noughts_app]
      omega
  have := h k
  unfold heads
  omega
theorem heads_le (k : H) : heads k ≤ (k.enc.length : Int) := by
  have := noughts_le k.enc
  unfold heads
  omega
/-- A tree with a head cut off, and whether the head was one of its own branches. -/
def cut (n : Nat) : H → Int → H × Bool
  | z, _ => (z, false)
  | c k r, h =>
    if h < 0 ∨ heads k ≤ h then (c k (cut n r (h - heads k)).1, (cut n r (h - heads k)).2)
    else if k.cnt = 0 then (r, true)
    else (if (cut n k h).2 then rep n (cut n k h).1 r else c (cut n k h).1 r, false)
theorem cut_neg (n : Nat) (f : H) : ∀ h : Int, h < 0 → cut n f h = (f, false) := by
  induction f with
  | z => intro h _; rfl
  | c k r _ ih =>
    intro h hh
    have hp := heads_pos k
    rw [cut, if_pos (.inl hh), ih _ (by omega)]
theorem cut_past {n : Nat} {k r : H} {h : Int} (hh : h < 0 ∨ heads k ≤ h) : cut n (c k r) h = (c k (cut n r (h - heads k)).1, (cut n r (h - heads k)).2) := by rw [cut, if_pos hh]
theorem cut_head {n : Nat} {r : H} {h : Int} (h0 : 0 ≤ h) (h1 : h < heads z) : cut n (c z r) h = (r, true) := by rw [cut, if_neg (by omega), if_pos (show z.cnt = 0 from rfl)]
theorem cut_in {n : Nat} {k r : H} {h : Int} (h0 : 0 ≤ h) (h1 : h < heads k) (hk : k ≠ z) : cut n (c k r) h = (if (cut n k h).2 then rep n (cut n k h).1 r else c (cut n k h).1 r, false) := by
  rw [cut, if_neg (by omega), if_neg (fun e => hk (cnt_zero e))]
/-- How many numbers there are at most. -/
theorem cut_len (n : Nat) (hn : 1 ≤ n) : ∀ (f : H) (h : Int), (cut n f h).1.body.length ≤ n * f.body.length ∧ ((cut n f h).2 = true → (cut n f h).1.body.length ≤ f.body.length) := by
  intro f
  induction f with
  | z => intro h; exact ⟨by simp [cut, body], fun h => by cases h⟩
  | c k r ihk ihr =>
    intro h
    have hl : (c k r).body.length = k.body.length + 1 + r.body.length := by rw [body_c, List.length_append, enc_len]
    have hm : n * (k.body.length + 1 + r.body.length) = n * k.body.length + n + n * r.body.length := by rw [Nat.mul_add, Nat.mul_add, Nat.mul_one]
    have hk1 : k.body.length ≤ n * k.body.length := Nat.le_mul_of_pos_left _ hn
    have hr1 : r.body.length ≤ n * r.body.length := Nat.le_mul_of_pos_left _ hn
    by_cases hh : h < 0 ∨ heads k ≤ h
    · rw [cut_past hh]
      obtain ⟨q1, q2⟩ := ihr (h - heads k)
      refine ⟨?_, fun hb => ?_⟩
      · rw [hl, hm]; simp only [body_c, List.length_append, enc_len]; omega
      · rw [hl]; simp only [body_c, List.length_append, enc_len]; have := q2 hb; omega
    · by_cases hk : k = z
      · subst hk
        rw [cut_head (by omega) (by omega), hl, hm]
        exact ⟨by simp only; omega, fun _ => by simp only; omega⟩
      · rw [cut_in (by omega) (by omega) hk]
        obtain ⟨q1, q2⟩ := ihk h
        refine ⟨?_, fun hb => by cases hb⟩
        rw [hl, hm]
        cases hb : (cut n k h).2 with
        | true =>
          have h3 := q2 hb
          simp only [if_true, rep_body, List.length_append, Rp_len, enc_len]
          have h4 : ((cut n k h).1.body.length + 1) * n ≤ (k.body.length + 1) * n := Nat.mul_le_mul_right n (by omega)
          have h5 : (k.body.length + 1) * n = n * k.body.length + n := by rw [Nat.add_mul, Nat.one_mul, Nat.mul_comm]
          omega
        | false =>
          simp only [Bool.false_eq_true, if_false, body_c, List.length_append, enc_len]
          omega

/-- HydraCut. -/
noncomputable def cutOkB (xs : List Int) (h n : Int) : Bool := hvB xs && decide (1 ≤ n ∧ n ≤ 9 ∧ 0 ≤ h ∧ h < headsRow xs) && decide ((cut n.toNat (of xs) h).1.enc.length ≤ 60)
noncomputable def cutRow (xs : List Int) (h n : Int) : List Int := if cutOkB xs h n = true then (cut n.toNat (of xs) h).1.enc else []
theorem cutRow_len (xs : List Int) (h n : Int) : (cutRow xs h n).length ≤ 1000 := by
  unfold cutRow
  split
  · rename_i hq
    rw [cutOkB, Bool.and_eq_true] at hq
    have := of_decide_eq_true hq.2
    omega
  · simp
theorem cut_no {xs : List Int} {h n : Int} (hq : cutOkB xs h n = false) : cutRow xs h n = [] := if_neg (by rw [hq]; simp)
theorem cut_bad {xs : List Int} {h n : Int} (hq : ¬ (hvB xs = true ∧ 1 ≤ n ∧ n ≤ 9 ∧ 0 ≤ h ∧ h < headsRow xs)) : cutOkB xs h n = false := by
  rw [cutOkB]
  by_cases hv : hvB xs = true
  · rw [decide_eq_false (fun h' => hq ⟨hv, h'⟩)]; simp
  · have : hvB xs = false := by cases hb : hvB xs with | true => exact absurd hb hv | false => rfl
    rw [this]; rfl
end H

set_option maxHeartbeats 2000000 in
theorem l5Heads_any (ao : Option Addr) (len cap : Nat) (xs : List Int) (w : World) (h : Sl w ao len cap xs) (hb : len ≤ 1000000) :
    Calls Try.prog 70 #[.slice ao len cap] w fun e w' => e = .returned (.int .i64 (H.noughts xs)) ∧ w = w' := by
  obtain ⟨h1, h2, h3, h4⟩ := h
  have Hl := Lib.hid h1
  have HA := Lib.hid h4
  clear h1 h4
  go_enter Try.func70, Try.ntmps70
  go_wp2_with fail
  go_loop [3, 4] (fun v3 v4 => ∃ (i n : Nat), i ≤ len ∧ n ≤ i ∧ Hid (n = H.noughts (xs.take i)) ∧ v3 = .int .i64 n ∧ v4 = .int .i64 i) (fun _ i => len - (intOf i).toNat)
  case atStart => exact ⟨0, 0, Nat.zero_le _, Nat.le_refl _, rfl, rfl, rfl⟩
  case round =>
    obtain ⟨i, n, hi, hn, HU, rfl, rfl⟩ := hrel
    by_cases hlt : i < len
    · obtain ⟨b, off, rfl, hat⟩ := HA.out (by omega)
      have hc := hat i (by rw [Hl.out]; exact hlt)
      have hsn := H.noughts_snoc xs i (by rw [Hl.out]; exact hlt)
      obtain ⟨x, hx⟩ : ∃ x, x = xs.getD i 0 := ⟨_, rfl⟩
      rw [← hx] at hc hsn
      rw [← HU.out] at hsn
      have Hsn := Lib.hid hsn
      clear hx hsn
      by_cases hx0 : x = 0
      · subst hx0
        have hz : ((0 : Int) == 0) = true := rfl
        go_wp2_with fail
        go_round
        case rel => exact ⟨i + 1, n + 1, by omega, by omega, by rw [Hsn.out]; rfl, by go_num, by go_num⟩
        case measure => simp [intOf]; omega
      · have hz : (x == 0) = false := by simpa using hx0
        go_wp2_with fail
        go_round
        case rel => exact ⟨i + 1, n, by omega, by omega, by rw [Hsn.out, if_neg hx0]; rfl, rfl, by go_num⟩
        case measure => simp [intOf]; omega
    · obtain rfl : i = len := by omega
      have hfin : n = H.noughts xs := by rw [HU.out, List.take_of_length_le (by rw [Hl.out]; omega)]
      have Hf := Lib.hid hfin
      clear hfin
      go_wp2_with fail
      go_ret
      exact ⟨ret_int (by rw [Hf.out]), rfl⟩
end Go.Proofs.Ytdcgcohfbcdnnaa
