/- OrdBefore of the program; OrdDepth of the program. -/
import Derived.Test.YtobookpaadpolacNext
namespace Go.Proofs.Ytobookpaadpolac
open Go.RowKit

theorem TC.front {w : World} {d r : T} {cs : List Value} (h : TC w (d.app r) cs) : TC w d (cs.take (2 * d.cnt)) := by
  induction d generalizing cs with
  | z => simp [T.cnt, TC]
  | c k f q _ ih =>
    obtain ⟨b, off, cap, cs', rfl, h1, h2, h3, h4⟩ := h
    refine ⟨b, off, cap, cs'.take (2 * q.cnt), ?_, h1, h2, h3, ih h4⟩
    rw [show 2 * (T.c k f q).cnt = 2 * q.cnt + 2 by simp [T.cnt]; omega]
    rfl

theorem kind_row {xs : List Int} (h : T.kindRow xs = 1) : T.vldB xs = true ∧ (T.of xs).kind = 1 := by
  unfold T.kindRow at h
  split at h
  · rename_i hv; exact ⟨hv, h⟩
  · omega

theorem kindRow_vals (xs : List Int) : T.kindRow xs = -1 ∨ T.kindRow xs = 0 ∨ T.kindRow xs = 1 ∨ T.kindRow xs = 2 := by
  unfold T.kindRow
  split
  · right
    rcases Nat.eq_zero_or_pos (T.of xs).cnt with h | h
    · rw [T.cnt_zero h]; left; rfl
    · obtain ⟨d, n, e, h1, _⟩ := T.last_of _ h
      rw [h1, T.kind_app]
      split <;> simp
  · left; rfl

theorem bef_bad {xs : List Int} (h : ¬ T.kindRow xs = 1) : T.befRow xs = [] ∧ T.befOk xs = false := by
  have h2 : ¬ (T.vldB xs = true ∧ (T.of xs).kind = 1) := by
    rintro ⟨h3, h4⟩
    exact h (by rw [T.kindRow, if_pos h3, h4])
  refine ⟨by rw [T.befRow, if_neg h2], ?_⟩
  rw [T.befOk]
  cases hv : T.vldB xs with
  | false => rfl
  | true => simp; intro hk; exact h2 ⟨hv, hk⟩

theorem T.depth_le (t : T) : t.depth ≤ t.body.length := by
  induction t with
  | z => simp [T.depth]
  | c n e r ih _ => rw [T.body_c]; simp [T.depth, T.enc]; omega

theorem impl_OrdDepth (ao : Option Addr) (len cap : Nat) (xs : List Int) (w : World) (h : Sl w ao len cap xs) :
    Calls Try.prog 31 #[.slice ao len cap] w fun e w' => e = .returned (.int .i64 (T.depRow xs)) ∧ Below w.heap.size w w' := by
  rcases vld_tf xs with h1 | h1
  · have k1 := Lib.hid (impl_valid ao len cap xs w h h1)
    obtain ⟨b, off, t, rfl, rfl, hs, hos, hat, hn, hl, hp, hc, hm⟩ := h.valid h1
    have hr : T.depRow t.enc = t.depth := by rw [T.depRow, if_pos h1, hos]
    rw [hr]
    have HA := Lib.hid hat
    have HN := Lib.hid hn
    have hdl : t.depth ≤ 60 := by have := T.depth_le t; have := T.enc_len t; omega
    clear h1 hos hs hat hn hr
    go_enter Try.func31, Try.ntmps31
    go_wp2_with fail
    refine (k1.out).mono ?_
    rintro ee w1 ⟨rfl, hb1⟩
    have Hb1 := Lib.hid hb1
    have HA1 := Lib.hid (HA.out.below hb1 (HA.out.lt (T.enc_ne t)))
    clear hb1
    go_wp2_with fail
    go_loop [3, 4] (fun i j => ∃ (a k : Nat) (e : T) (rest : List Int), k ≤ t.depth ∧ Hid (t.enc.drop a = e.enc ++ rest ∧ k + e.depth = t.depth) ∧ i = .int .i64 k ∧ j = .int .i64 a) (fun _ j => len - (intOf j).toNat)
    case atStart => exact ⟨0, 0, t, [], by omega, ⟨by simp, by omega⟩, rfl, rfl⟩
    case round =>
      obtain ⟨a, k, e, rest, hk, HU, rfl, rfl⟩ := hrel
      obtain ⟨h2, h3⟩ := HU.out
      have hx := HA1.out.get (show t.enc.drop a = (e.cnt : Int) :: (e.body ++ rest) from h2)
      have hal := drop_len h2 (by simp [T.enc])
      rw [← HN.out] at hal
      simp at hal
      have hel := T.enc_len e
      have hlt : a < len := by omega
      cases e with
      | z =>
        have h0 : ((T.z.cnt : Nat) : Int) = 0 := rfl
        clear h2 hal hel
        have hkd : k = t.depth := by simpa [T.depth] using h3
        subst hkd
        clear h3
        go_wp2_with fail
        go_ret
        exact ⟨rfl, Hb1.out⟩
      | c n f r =>
        have hpos : (0 : Int) < ((T.c n f r).cnt : Nat) := by simp [T.cnt]
        have hkl : k + 1 ≤ t.depth := by simp [T.depth] at h3; omega
        have h4 : t.enc.drop (a + 2) = f.enc ++ (r.body ++ rest) := by
          have h5 : t.enc.drop a = ((T.c n f r).cnt : Int) :: n :: (f.enc ++ (r.body ++ rest)) := by
            rw [h2]; simp [T.enc, T.body]
          exact drop_more (drop_more h5)
        have H4 := Lib.hid h4
        have H3 := Lib.hid h3
        clear h2 h3 h4 hal hel
        go_wp2_with fail
        go_round
        case rel => exact ⟨a + 2, k + 1, f, r.body ++ rest, hkl, ⟨H4.out, by have := H3.out; simp [T.depth] at this; omega⟩, by go_num, by go_num⟩
        case measure => simp [intOf]; omega
  · have k1 := Lib.hid (impl_valid ao len cap xs w h h1)
    have hr : T.depRow xs = -1 := by rw [T.depRow, if_neg (by rw [h1]; simp)]
    rw [hr]
    clear h1 hr
    go_enter Try.func31, Try.ntmps31
    go_wp2_with fail
    refine (k1.out).mono ?_
    rintro ee w1 ⟨rfl, hb1⟩
    have Hb1 := Lib.hid hb1
    clear hb1
    go_wp2_with fail
    go_ret
    exact ⟨rfl, Hb1.out⟩

end Go.Proofs.Ytobookpaadpolac
