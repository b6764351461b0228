/- Terms of ordinals: the program's own (impl.termsOf). -/
import Derived.Test.YtdcgcohfbcdnnaaTerms
import Derived.RegionTactic
import Derived.BigRegion
namespace Go.Proofs.Ytdcgcohfbcdnnaa
set_option maxRecDepth 100000
open Go.RowKit

/-- Terms, as cells in memory: a number and an exponent. -/
def TC (w : World) : T → List Value → Prop
  | .z, cs => cs = []
  | .c n e r, cs => ∃ b off cap cs', cs = .int .i64 n :: .slice (some ⟨b, off, none⟩) e.enc.length cap :: cs' ∧ At w b off e.enc ∧ e.enc.length ≤ cap ∧ cap ≤ maxLen ∧ TC w r cs'

theorem TC.snoc {w : World} {t : T} {cs : List Value} {n : Int} {e : T} {b off cap : Nat} (h : TC w t cs) (ha : At w b off e.enc) (hc : e.enc.length ≤ cap) (hm : cap ≤ maxLen) :
    TC w (t.app (.c n e .z)) (cs ++ [.int .i64 n, .slice (some ⟨b, off, none⟩) e.enc.length cap]) := by
  induction t generalizing cs with
  | z => simp only [TC] at h; subst h; exact ⟨b, off, cap, [], rfl, ha, hc, hm, rfl⟩
  | c m f r _ ih =>
    obtain ⟨b', off', cap', cs', rfl, h1, h2, h3, h4⟩ := h
    exact ⟨b', off', cap', _, rfl, h1, h2, h3, ih h4⟩

theorem TC.below {w w' : World} {t : T} {cs : List Value} (h : TC w t cs) (hb : Below w.heap.size w w') : TC w' t cs := by
  induction t generalizing cs with
  | z => exact h
  | c m f r _ ih =>
    obtain ⟨b', off', cap', cs', rfl, h1, h2, h3, h4⟩ := h
    exact ⟨b', off', cap', _, rfl, h1.below hb (h1.lt (T.enc_ne f)), h2, h3, ih h4⟩

theorem TC.length {w : World} {t : T} {cs : List Value} (h : TC w t cs) : cs.length = 2 * t.cnt := by
  induction t generalizing cs with
  | z => simp only [TC] at h; subst h; rfl
  | c m f r _ ih =>
    obtain ⟨b', off', cap', cs', rfl, h1, h2, h3, h4⟩ := h
    simp [T.cnt, ih h4]; omega

theorem set_two (cs zs : List Value) (x y z1 z2 : Value) (k : Nat) (h : cs.length = k * 2) : ((cs ++ z1 :: z2 :: zs).set (k * 2) x).set (k * 2 + 1) y = (cs ++ [x, y]) ++ zs := by
  rw [← h, List.set_append_right _ _ (Nat.le_refl _), Nat.sub_self, List.set_append_right _ _ (by omega), show cs.length + 1 - cs.length = 1 by omega]
  simp

theorem info_term : (Try.prog.info? 116).map (fun i => (i.zero, i.size, i.bytes)) = some (some (.agg #[.int .i64 0, .slice none 0 0]), 2, 32) := by kernel_rfl

set_option maxHeartbeats 1000000 in
theorem termsOf_any (b off len cap : Nat) (xs : List Int) (t : T) (w : World) (hl : xs.length = len) (hb : len ≤ 1000000000000) (hlc : len ≤ cap) (hcm : cap ≤ maxLen) (hat : At w b off xs) (hx : xs = t.enc) :
    Calls Try.prog 106 #[.slice (some ⟨b, off, none⟩) len cap] w fun e w' => ∃ cs, e = .returned (.slice (some ⟨w.heap.size, 0, none⟩) t.cnt t.cnt) ∧
      w'.ownsRow w.heap.size 116 2 (.slice (some ⟨w.heap.size, 0, none⟩) t.cnt t.cnt) t.cnt cs ∧ TC w' t cs ∧ Below w.heap.size w w' := by
  have h0 : xs.drop 0 = (t.cnt : Int) :: t.body := by rw [hx]; rfl
  have hel : t.body.length + 1 = len := by rw [← hl, hx, T.enc_len]
  have hc0 : w.cell? ⟨b, off, none⟩ = some (.int .i64 t.cnt) := by simpa using hat.get h0
  have hcl : t.cnt ≤ len := by have := T.cnt_le t; omega
  have hp : 0 < len := by omega
  obtain ⟨i0, hi, hz0, hz1, hz2⟩ := info_parts info_term
  have H0 := Lib.hid (drop_more h0)
  have H1 := Lib.hid hx
  have H2 := Lib.hid hl
  have H3 := Lib.hid hel
  clear h0 hx hl hel
  go_enter Try.func106, Try.ntmps106
  go_wp2_with (first
    | (at_make; refine wpList_make_full _ rfl (.tmp 9) (.tmp 9) 117 rfl w.heap.size 116 i0 _ 2 Try.underlying117 hi hz0 hz1 .i64 .i64 _ _ t.cnt rfl rfl rfl rfl (by rw [hz2]; omega) (by unfold maxLen; omega) (Nat.le_refl _) ?_; intro w1 hown hg1))
  go_loopw [4, 13] (fun i j wr => ∃ (a k : Nat) (d u : T) (cs zs : List Value), 1 ≤ a ∧ a ≤ len ∧ k ≤ t.cnt ∧ Hid (a + u.body.length = len ∧ d.app u = t ∧ xs.drop a = u.body ∧ d.cnt = k ∧ zs.length = 2 * u.cnt) ∧ i = .int .i64 a ∧ j = .int .i64 k ∧
      wr.ownsRow w.heap.size 116 2 (.slice (some ⟨w.heap.size, 0, none⟩) t.cnt t.cnt) t.cnt (cs ++ zs) ∧ TC w d cs ∧ Below w.heap.size w wr) (fun _ j _ => t.cnt - (intOf j).toNat)
  case atStart =>
    refine ⟨1, 0, .z, t, [], (madeCells (Value.agg #[.int .i64 0, .slice none 0 0]).cells (t.cnt * 2)).toList, by omega, by omega, by omega, ⟨by have := H3.out; omega, rfl, H0.out, rfl, ?_⟩, rfl, rfl, hown, rfl, (Below.refl _ _).grown hg1 (Nat.le_refl _) (fun k hk => by cases hk)⟩
    have := hown.1
    omega
  case round =>
    obtain ⟨a, k, d, u, cs, zs, ha1, ha2, hk, HU, rfl, rfl, ho, hT, hbel⟩ := hrel
    obtain ⟨h1, h2, h3, h4, h5⟩ := HU.out
    by_cases hlt : k < t.cnt
    · obtain ⟨n, e, r, rfl⟩ : ∃ n e r, u = .c n e r := T.cnt_pos (by have := T.app_cnt d u; rw [h2] at this; omega)
      have hd0 : xs.drop a = n :: (e.enc ++ r.body) := by rw [h3, T.body_c]
      have hbw : b < w.heap.size := hat.lt (by rw [H1.out]; exact T.enc_ne t)
      have hc1 := (hbel.cell (p := ⟨b, off + a, none⟩) (by exact hbw)).trans (hat.get hd0)
      have hd1 := drop_more hd0
      have hee := T.enc_len e
      have hal : a + 1 + e.enc.length + r.body.length = len := by rw [T.body_c] at h1; simp at h1; omega
      have hal2 : a + 1 + e.enc.length ≤ len := by omega
      have hpos : 1 ≤ e.enc.length := by omega
      have hatw : At wr b (off + (a + 1)) (xs.drop (a + 1)) := (hat.below hbel hbw).drop (a + 1)
      have hate : At w b (off + (a + 1)) e.enc := (hd1 ▸ hat.drop (a + 1)).left
      have lo := fun c => Lib.hid (lengthOfOrd_any b (off + (a + 1)) (len - (a + 1)) c (xs.drop (a + 1)) r.body e wr (by rw [List.length_drop, H2.out]) (by omega) hatw hd1)
      have Hal := Lib.hid hal
      have Hd2 := Lib.hid (drop_app hd1)
      have Happ := Lib.hid h2
      have Hate := Lib.hid hate
      have Hbel := Lib.hid hbel
      have hsz := hbel.size
      have hcsl := hT.length
      obtain ⟨z1, z2, zs', rfl⟩ : ∃ z1 z2 zs', zs = z1 :: z2 :: zs' := by
        match zs, h5 with
        | z1 :: z2 :: zs', _ => exact ⟨z1, z2, zs', rfl⟩
        | [_], h5 => simp [T.cnt] at h5; omega
        | [], h5 => simp [T.cnt] at h5
      have hk1 : wr.cell? ⟨w.heap.size, k * 2, none⟩ = some z1 := by
        rw [ho.cellAt _ (by omega), List.getElem?_append_right (by omega), show k * 2 - cs.length = 0 by omega]; rfl
      have hk2 : wr.cell? ⟨w.heap.size, k * 2 + 1, none⟩ = some z2 := by
        rw [ho.cellAt _ (by omega), List.getElem?_append_right (by omega), show k * 2 + 1 - cs.length = 1 by omega]; rfl
      have hf1 := ho.frozenAt (k * 2)
      have hf2 := ho.frozenAt (k * 2 + 1)
      clear h1 h2 h3 h4 h5 hd0 hd1 hee hal hatw hate hbel hcsl
      go_wp2_with fail
      refine ((lo _).out).mono ?_
      rintro ee w' ⟨rfl, rfl⟩
      go_wp2_with fail
      go_region
      go_wp2_with fail
      go_roundw
      case rel =>
        have h6 := HU.out
        refine ⟨a + 1 + e.enc.length, k + 1, d.app (.c n e .z), r, cs ++ [.int .i64 n, .slice (some ⟨b, off + (a + 1), none⟩) e.enc.length (cap - (a + 1))], zs', by omega, by omega, by omega, ⟨Hal.out, ?_, Hd2.out, ?_, ?_⟩, by go_num, by go_num, ?_, hT.snoc Hate.out (by omega) (by omega), ?_⟩
        · rw [T.app_assoc]; exact Happ.out
        · rw [T.app_cnt, h6.2.2.2.1]; rfl
        · have := h6.2.2.2.2; simp [T.cnt] at this; omega
        · have h7 := ((ho.stored (k * 2) (.int .i64 n)).1.stored (k * 2 + 1) (.slice (some ⟨b, off + (a + 1), none⟩) e.enc.length (cap - (a + 1)))).1
          rw [set_two _ _ _ _ _ _ _ (by rw [hT.length, h6.2.2.2.1, Nat.mul_comm])] at h7
          exact h7.drew
        · exact ((Hbel.out.setCell (p := ⟨w.heap.size, k * 2, none⟩) (Nat.le_refl _) _).setCell (p := ⟨w.heap.size, k * 2 + 1, none⟩) (Nat.le_refl _) _).drew
      case measure => simp [intOf]; omega
    · have hu : u = .z := T.cnt_zero (by have := T.app_cnt d u; rw [h2] at this; omega)
      subst hu
      have hdt : d = t := by rw [T.app_z] at h2; exact h2
      subst hdt
      have hzs : zs = [] := by simpa [T.cnt] using h5
      subst hzs
      clear h1 h2 h3 h4 h5
      go_wp2_with fail
      go_ret
      exact ⟨_, rfl, by simpa using ho, hT.below hbel, hbel⟩

end Go.Proofs.Ytdcgcohfbcdnnaa
