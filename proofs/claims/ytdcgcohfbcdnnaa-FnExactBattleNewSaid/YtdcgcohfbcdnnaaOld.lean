/- The terms once more: their exponents lie in memory that was there before the call. -/
import Derived.Test.YtdcgcohfbcdnnaaTermsOf
import Derived.RegionTactic
import Derived.BigRegion
namespace Go.Proofs.Ytdcgcohfbcdnnaa
set_option maxRecDepth 100000
open Go.RowKit

set_option maxHeartbeats 1000000 in
theorem l1Terms_old (b off len cap : Nat) (xs : List Int) (t : T) (w : World) (hl : xs.length = len) (hb : len ≤ 1000000000000) (hlc : len ≤ cap) (hcm : cap ≤ maxLen) (hat : At w b off xs) (hx : xs = t.enc) :
    Calls Try.prog 100 #[.slice (some ⟨b, off, none⟩) len cap] w fun e w' => ∃ v1 v2 es, e = .returned (.tuple #[v1, v2]) ∧
      w'.ownsRow w.heap.size 3 1 v1 t.cnt (t.times.map (.int .i64)) ∧ w'.ownsRow w.heap.size 22 1 v2 t.cnt es ∧ EC w t es ∧ (v1.ownBlock = none ∨ v1.ownBlock ≠ v2.ownBlock) ∧ Below w.heap.size w w' := by
  have h0 : xs.drop 0 = (t.cnt : Int) :: t.body := by rw [hx]; rfl
  have hel : t.body.length + 1 = len := by rw [← hl, hx, T.enc_len]
  obtain ⟨i0, hi, hz0, hz1, hz2⟩ := info_parts info_int
  obtain ⟨j0, hj, hy0, hy1, hy2⟩ := info_parts info_ints
  have H0 := Lib.hid (drop_more h0)
  have H1 := Lib.hid hx
  have H2 := Lib.hid hl
  have H3 := Lib.hid hel
  clear h0 hx hl hel
  go_enter Try.func100, Try.ntmps100
  go_wp2_with fail
  go_loopw [4, 5, 6] (fun v1 v2 i wr => ∃ (a : Nat) (d u : T) (es : List Value), 1 ≤ a ∧ a ≤ len ∧ Hid (a + u.body.length = len ∧ d.app u = t ∧ xs.drop a = u.body) ∧ i = .int .i64 a ∧
      wr.ownsRow w.heap.size 3 1 v1 d.cnt (d.times.map (.int .i64)) ∧ wr.ownsRow w.heap.size 22 1 v2 d.cnt es ∧ EC w d es ∧ Below w.heap.size w wr) (fun _ _ i _ => len - (intOf i).toNat)
  case atStart =>
    refine ⟨1, .z, t, [], by omega, by have := H3.out; omega, ⟨by have := H3.out; omega, rfl, H0.out⟩, rfl, ?_, ?_, rfl, ?_⟩
    · exact (World.ownsRow_lit w #[] 0 (Nat.le_refl _) (by simp [maxLen]) rfl).alloc _
    · have h := World.ownsRow_lit (base := w.heap.size) (e := 22) (size := 1) (w.alloc (.cells #[] 3)) #[] 0 (by simp) (by simp [maxLen]) rfl
      rw [World.size_alloc] at h
      exact h
    · exact ((Below.refl _ _).alloc (Nat.le_refl _) _).alloc (by simp) _
  case round =>
    obtain ⟨a, d, u, es, ha1, ha2, HU, rfl, ho1, ho2, hE, hbel⟩ := hrel
    obtain ⟨h1, h2, h3⟩ := HU.out
    cases u with
    | z =>
      have hae : a = len := by simpa [T.body] using h1
      subst hae
      have hdt : d = t := by rw [T.app_z] at h2; exact h2
      subst hdt
      clear h1 h2 h3
      go_wp2_with fail
      go_ret2
      exact ⟨_, _, _, rfl, ho1, ho2, hE, own_ne ho1 ho2 (by decide), hbel⟩
    | c n e r =>
      have hd0 : xs.drop a = n :: (e.enc ++ r.body) := by rw [h3, T.body_c]
      have hc0 := (hbel.cell (p := ⟨b, off + a, none⟩) (by exact hat.lt (by rw [H1.out]; exact T.enc_ne t))).trans (hat.get hd0)
      have hd1 := drop_more hd0
      have hee := T.enc_len e
      have hal : a + 1 + e.enc.length + r.body.length = len := by rw [T.body_c] at h1; simp at h1; omega
      have hal2 : a + 1 + e.enc.length ≤ len := by omega
      have hpos : 1 ≤ e.enc.length := by omega
      have hdl : d.cnt ≤ len := by
        have := T.cnt_le t
        have h5 := T.app_cnt d (.c n e r)
        rw [h2] at h5
        have := H3.out
        omega
      have hatw : At wr b off xs := hat.below hbel (hat.lt (by rw [H1.out]; exact T.enc_ne t))
      have hate : At w b (off + (a + 1)) e.enc := (hd1 ▸ hat.drop (a + 1)).left
      have Hal := Lib.hid hal
      have Hd2 := Lib.hid (drop_app hd1)
      have Happ := Lib.hid h2
      have sp := Lib.hid (l1Span_any (e.body.length + 1) b off len cap (a + 1) xs r.body e wr (by omega) H2.out hb hatw hd1)
      have Hate := Lib.hid hate
      have Hne := Lib.hid (own_ne ho1 ho2 (by decide))
      have Hbel := Lib.hid hbel
      have hsz := hbel.size
      clear h1 h2 h3 hd0 hd1 hee hal hatw hate hbel
      go_wp2_with fail
      refine (sp.out).mono ?_
      rintro ee w' ⟨rfl, rfl⟩
      go_wp2_with (first
        | (at_builtin; refine wpList_append_own _ rfl (.tmp 18) (.tmp 23) 22 rfl w.heap.size 3 i0 (.int .i64 0) 1 8 Try.underlying22 hi hz0 hz1 hz2 rfl (by decide) _ _ _ rfl (ho1.alloc _) ⟨wr.heap.size, 0, none⟩ 1 1 [.int .i64 n] rfl rfl (cell_one_new _ _ _) (ints_oneCell _ [n]) (by unfold maxLen; omega) (by omega) (by simp; omega) ?_; intro v1' w1 ho1' hg1 _; have ho2b := ho2b_of ho2 hg1 Hne; have hq2 := le_of_alloc hg1)
        | (at_builtin; refine wpList_append_own _ rfl (.tmp 25) (.tmp 31) 59 rfl w.heap.size 22 j0 (.slice none 0 0) 1 24 Try.underlying59 hj hy0 hy1 hy2 rfl (by decide) _ _ _ rfl (ho2b.alloc _) ⟨w1.heap.size, 0, none⟩ 1 1 [.slice (some ⟨b, off + (a + 1), none⟩) e.enc.length (cap - (a + 1))] rfl rfl (cell_one_new _ _ _) (slice_oneCell _ _ _) (by unfold maxLen; omega) (by omega) (by simp; omega) ?_; intro v2' w2 ho2' hg2 _))
      go_roundw
      case rel =>
        have hb1 := (Hbel.out.alloc (by omega) _).grown hg1 (by simp; omega) (fun k hk => (ho1.lt k hk).1)
        have hb2 := (hb1.alloc (by omega) _).grown hg2 (by simp; omega) (fun k hk => (ho2.lt k hk).1)
        refine ⟨a + 1 + e.enc.length, d.app (.c n e .z), r, es ++ [.slice (some ⟨b, off + (a + 1), none⟩) e.enc.length (cap - (a + 1))], by omega, by omega, ⟨Hal.out, ?_, Hd2.out⟩, by go_num, ?_, ?_, hE.snoc Hate.out (by omega) (by omega), hb2⟩
        · rw [T.app_assoc]; exact Happ.out
        · rw [T.app_cnt, T.times_app, List.map_append]
          exact kept_of ho1' hg2 (own_ne ho1' ho2b (by decide))
        · rw [T.app_cnt]; exact ho2'
      case measure => simp [intOf]; omega


set_option maxHeartbeats 1000000 in
theorem termsOf_old (b off len cap : Nat) (xs : List Int) (t : T) (w : World) (hl : xs.length = len) (hb : len ≤ 1000000000000) (hlc : len ≤ cap) (hcm : cap ≤ maxLen) (hat : At w b off xs) (hx : xs = t.enc) :
    Calls Try.prog 106 #[.slice (some ⟨b, off, none⟩) len cap] w fun e w' => ∃ cs, e = .returned (.slice (some ⟨w.heap.size, 0, none⟩) t.cnt t.cnt) ∧
      w'.ownsRow w.heap.size 116 2 (.slice (some ⟨w.heap.size, 0, none⟩) t.cnt t.cnt) t.cnt cs ∧ TC w t cs ∧ Below w.heap.size w w' := by
  have h0 : xs.drop 0 = (t.cnt : Int) :: t.body := by rw [hx]; rfl
  have hel : t.body.length + 1 = len := by rw [← hl, hx, T.enc_len]
  have hc0 : w.cell? ⟨b, off, none⟩ = some (.int .i64 t.cnt) := by simpa using hat.get h0
  have hcl : t.cnt ≤ len := by have := T.cnt_le t; omega
  have hp : 0 < len := by omega
  obtain ⟨i0, hi, hz0, hz1, hz2⟩ := info_parts info_term
  have H0 := Lib.hid (drop_more h0)
  have H1 := Lib.hid hx
  have H2 := Lib.hid hl
  have H3 := Lib.hid hel
  clear h0 hx hl hel
  go_enter Try.func106, Try.ntmps106
  go_wp2_with (first
    | (at_make; refine wpList_make_full _ rfl (.tmp 9) (.tmp 9) 117 rfl w.heap.size 116 i0 _ 2 Try.underlying117 hi hz0 hz1 .i64 .i64 _ _ t.cnt rfl rfl rfl rfl (by rw [hz2]; omega) (by unfold maxLen; omega) (Nat.le_refl _) ?_; intro w1 hown hg1))
  go_loopw [4, 13] (fun i j wr => ∃ (a k : Nat) (d u : T) (cs zs : List Value), 1 ≤ a ∧ a ≤ len ∧ k ≤ t.cnt ∧ Hid (a + u.body.length = len ∧ d.app u = t ∧ xs.drop a = u.body ∧ d.cnt = k ∧ zs.length = 2 * u.cnt) ∧ i = .int .i64 a ∧ j = .int .i64 k ∧
      wr.ownsRow w.heap.size 116 2 (.slice (some ⟨w.heap.size, 0, none⟩) t.cnt t.cnt) t.cnt (cs ++ zs) ∧ TC w d cs ∧ Below w.heap.size w wr) (fun _ j _ => t.cnt - (intOf j).toNat)
  case atStart =>
    refine ⟨1, 0, .z, t, [], (madeCells (Value.agg #[.int .i64 0, .slice none 0 0]).cells (t.cnt * 2)).toList, by omega, by omega, by omega, ⟨by have := H3.out; omega, rfl, H0.out, rfl, ?_⟩, rfl, rfl, hown, rfl, (Below.refl _ _).grown hg1 (Nat.le_refl _) (fun k hk => by cases hk)⟩
    have := hown.1
    omega
  case round =>
    obtain ⟨a, k, d, u, cs, zs, ha1, ha2, hk, HU, rfl, rfl, ho, hT, hbel⟩ := hrel
    obtain ⟨h1, h2, h3, h4, h5⟩ := HU.out
    by_cases hlt : k < t.cnt
    · obtain ⟨n, e, r, rfl⟩ : ∃ n e r, u = .c n e r := T.cnt_pos (by have := T.app_cnt d u; rw [h2] at this; omega)
      have hd0 : xs.drop a = n :: (e.enc ++ r.body) := by rw [h3, T.body_c]
      have hbw : b < w.heap.size := hat.lt (by rw [H1.out]; exact T.enc_ne t)
      have hc1 := (hbel.cell (p := ⟨b, off + a, none⟩) (by exact hbw)).trans (hat.get hd0)
      have hd1 := drop_more hd0
      have hee := T.enc_len e
      have hal : a + 1 + e.enc.length + r.body.length = len := by rw [T.body_c] at h1; simp at h1; omega
      have hal2 : a + 1 + e.enc.length ≤ len := by omega
      have hpos : 1 ≤ e.enc.length := by omega
      have hatw : At wr b (off + (a + 1)) (xs.drop (a + 1)) := (hat.below hbel hbw).drop (a + 1)
      have hate : At w b (off + (a + 1)) e.enc := (hd1 ▸ hat.drop (a + 1)).left
      have lo := fun c => Lib.hid (lengthOfOrd_any b (off + (a + 1)) (len - (a + 1)) c (xs.drop (a + 1)) r.body e wr (by rw [List.length_drop, H2.out]) (by omega) hatw hd1)
      have Hal := Lib.hid hal
      have Hd2 := Lib.hid (drop_app hd1)
      have Happ := Lib.hid h2
      have Hate := Lib.hid hate
      have Hbel := Lib.hid hbel
      have hsz := hbel.size
      have hcsl := hT.length
      obtain ⟨z1, z2, zs', rfl⟩ : ∃ z1 z2 zs', zs = z1 :: z2 :: zs' := by
        match zs, h5 with
        | z1 :: z2 :: zs', _ => exact ⟨z1, z2, zs', rfl⟩
        | [_], h5 => simp [T.cnt] at h5; omega
        | [], h5 => simp [T.cnt] at h5
      have hk1 : wr.cell? ⟨w.heap.size, k * 2, none⟩ = some z1 := by
        rw [ho.cellAt _ (by omega), List.getElem?_append_right (by omega), show k * 2 - cs.length = 0 by omega]; rfl
      have hk2 : wr.cell? ⟨w.heap.size, k * 2 + 1, none⟩ = some z2 := by
        rw [ho.cellAt _ (by omega), List.getElem?_append_right (by omega), show k * 2 + 1 - cs.length = 1 by omega]; rfl
      have hf1 := ho.frozenAt (k * 2)
      have hf2 := ho.frozenAt (k * 2 + 1)
      clear h1 h2 h3 h4 h5 hd0 hd1 hee hal hatw hate hbel hcsl
      go_wp2_with fail
      refine ((lo _).out).mono ?_
      rintro ee w' ⟨rfl, rfl⟩
      go_wp2_with fail
      go_region
      go_wp2_with fail
      go_roundw
      case rel =>
        have h6 := HU.out
        refine ⟨a + 1 + e.enc.length, k + 1, d.app (.c n e .z), r, cs ++ [.int .i64 n, .slice (some ⟨b, off + (a + 1), none⟩) e.enc.length (cap - (a + 1))], zs', by omega, by omega, by omega, ⟨Hal.out, ?_, Hd2.out, ?_, ?_⟩, by go_num, by go_num, ?_, hT.snoc Hate.out (by omega) (by omega), ?_⟩
        · rw [T.app_assoc]; exact Happ.out
        · rw [T.app_cnt, h6.2.2.2.1]; rfl
        · have := h6.2.2.2.2; simp [T.cnt] at this; omega
        · have h7 := ((ho.stored (k * 2) (.int .i64 n)).1.stored (k * 2 + 1) (.slice (some ⟨b, off + (a + 1), none⟩) e.enc.length (cap - (a + 1)))).1
          rw [set_two _ _ _ _ _ _ _ (by rw [hT.length, h6.2.2.2.1, Nat.mul_comm])] at h7
          exact h7.drew
        · exact ((Hbel.out.setCell (p := ⟨w.heap.size, k * 2, none⟩) (Nat.le_refl _) _).setCell (p := ⟨w.heap.size, k * 2 + 1, none⟩) (Nat.le_refl _) _).drew
      case measure => simp [intOf]; omega
    · have hu : u = .z := T.cnt_zero (by have := T.app_cnt d u; rw [h2] at this; omega)
      subst hu
      have hdt : d = t := by rw [T.app_z] at h2; exact h2
      subst hdt
      have hzs : zs = [] := by simpa [T.cnt] using h5
      subst hzs
      clear h1 h2 h3 h4 h5
      go_wp2_with fail
      go_ret
      exact ⟨_, rfl, by simpa using ho, hT, hbel⟩


end Go.Proofs.Ytdcgcohfbcdnnaa
