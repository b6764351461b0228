/- Terms of ordinals: the program's own (impl.termsOf) and the model's (spec.l1Terms). -/
import Derived.Test.YtdcgcohfbcdnnaaLeaf
namespace Go.Proofs.Ytdcgcohfbcdnnaa
set_option maxRecDepth 100000
open Go.RowKit

theorem l1Span_any (N : Nat) : ∀ (b off len cap a : Nat) (xs rest : List Int) (t : T) (w : World), t.body.length < N → xs.length = len → len ≤ 1000000000000 → At w b off xs → xs.drop a = t.enc ++ rest →
    Calls Try.prog 108 #[.slice (some ⟨b, off, none⟩) len cap, .int .i64 a] w fun e w' => e = .returned (.int .i64 (a + t.enc.length : Nat)) ∧ w = w' := by
  induction N with
  | zero => intro b off len cap a xs rest t w hN; omega
  | succ N ih =>
    intro b off len cap a xs rest t w hN hl hb hat hx
    have hlen := drop_len hx (by simp [T.enc])
    simp at hlen
    have hel := T.enc_len t
    have hc0 := hat.get (show xs.drop a = (t.cnt : Int) :: (t.body ++ rest) from hx)
    have hd := drop_more (show xs.drop a = (t.cnt : Int) :: (t.body ++ rest) from hx)
    have hcl : t.cnt + a + 1 ≤ len := by have := T.cnt_le t; omega
    have H1 := Lib.hid hlen
    have H2 := Lib.hid hl
    have H3 := Lib.hid hel
    have H4 := Lib.hid hx
    have H5 := Lib.hid hd
    clear hlen hl hel hx hd
    go_enter Try.func108, Try.ntmps108
    go_wp2_with fail
    go_loop [1, 6] (fun i o => ∃ (a' k : Nat) (u : T), a ≤ a' ∧ k ≤ t.cnt ∧ Hid (a' + u.body.length + rest.length = len ∧ u.body.length ≤ t.body.length ∧ u.cnt + k = t.cnt ∧ xs.drop a' = u.body ++ rest) ∧ i = .int .i64 a' ∧ o = .int .i64 k) (fun i _ => len - (intOf i).toNat)
    case atStart => exact ⟨a + 1, 0, t, by omega, by omega, ⟨by have := H1.out; have := H2.out; have := H3.out; omega, by omega, by omega, H5.out⟩, by go_num, rfl⟩
    case round =>
      obtain ⟨a', k, u, ha, hk, HU, rfl, rfl⟩ := hrel
      by_cases hlt : k < t.cnt
      · obtain ⟨h1, h2, h3, h4⟩ := HU.out
        obtain ⟨n, e, r, rfl, hr⟩ := T.cnt_succ (t := u) (k := t.cnt - k - 1) (by omega)
        have hd := drop_more (show xs.drop a' = n :: (e.enc ++ (r.body ++ rest)) by rw [h4, T.body_c]; simp)
        have H6 := Lib.hid (drop_app hd)
        have hee := T.enc_len e
        have hbl : e.body.length + 1 + r.body.length + 1 ≤ t.body.length := by rw [T.body_c] at h2; simp at h2; omega
        have hal : a' + 1 + e.enc.length + r.body.length + rest.length = len := by rw [T.body_c] at h1; simp at h1; omega
        have Hal := Lib.hid hal
        have Hr := Lib.hid hr
        have hal2 : a' + 1 + e.enc.length ≤ len := by omega
        have ih2 := Lib.hid (ih b off len cap (a' + 1) xs (r.body ++ rest) e w (by omega) H2.out hb hat hd)
        clear h1 h3 h4 hd hee hal hr
        go_wp2_with fail
        refine (ih2.out).mono ?_
        rintro ee w' ⟨rfl, rfl⟩
        go_wp2_with fail
        go_round
        case rel => exact ⟨a' + 1 + e.enc.length, k + 1, r, by omega, by omega, ⟨Hal.out, by omega, by have := Hr.out; omega, H6.out⟩, by go_num, by go_num⟩
        case measure => simp [intOf]; omega
      · obtain ⟨h1, h2, h3, h4⟩ := HU.out
        have H6 := Lib.hid (T.cnt_zero (t := u) (by omega))
        clear h1 h2 h3 h4
        go_wp2_with fail
        go_ret
        exact ⟨ret_int (by have h7 := H6.out; obtain ⟨h1, _⟩ := HU.out; have := H1.out; have := H2.out; rw [h7] at h1; simp [T.body] at h1; omega), rfl⟩

/-- The exponents, as slices in memory. -/
def EC (w : World) : T → List Value → Prop
  | .z, es => es = []
  | .c _ e r, es => ∃ b off cap es', es = .slice (some ⟨b, off, none⟩) e.enc.length cap :: es' ∧ At w b off e.enc ∧ e.enc.length ≤ cap ∧ cap ≤ maxLen ∧ EC w r es'

theorem EC.snoc {w : World} {t : T} {es : List Value} {n : Int} {e : T} {b off cap : Nat} (h : EC w t es) (ha : At w b off e.enc) (hc : e.enc.length ≤ cap) (hm : cap ≤ maxLen) :
    EC w (t.app (.c n e .z)) (es ++ [.slice (some ⟨b, off, none⟩) e.enc.length cap]) := by
  induction t generalizing es with
  | z => simp only [EC] at h; subst h; exact ⟨b, off, cap, [], rfl, ha, hc, hm, rfl⟩
  | c m f r _ ih =>
    obtain ⟨b', off', cap', es', rfl, h1, h2, h3, h4⟩ := h
    exact ⟨b', off', cap', _, rfl, h1, h2, h3, ih h4⟩

theorem EC.below {w w' : World} {t : T} {es : List Value} (h : EC w t es) (hb : Below w.heap.size w w') : EC w' t es := by
  induction t generalizing es with
  | z => exact h
  | c m f r _ ih =>
    obtain ⟨b', off', cap', es', rfl, h1, h2, h3, h4⟩ := h
    exact ⟨b', off', cap', _, rfl, h1.below hb (h1.lt (T.enc_ne f)), h2, h3, ih h4⟩

theorem EC.length {w : World} {t : T} {es : List Value} (h : EC w t es) : es.length = t.cnt := by
  induction t generalizing es with
  | z => simp only [EC] at h; subst h; rfl
  | c m f r _ ih =>
    obtain ⟨b', off', cap', es', rfl, h1, h2, h3, h4⟩ := h
    simp [T.cnt, ih h4]

namespace T
def times : T → List Int
  | z => []
  | c n _ r => n :: r.times
theorem times_len (t : T) : t.times.length = t.cnt := by
  induction t with
  | z => rfl
  | c n e r _ ih => simp [times, cnt, ih]
theorem times_app (t s : T) : (t.app s).times = t.times ++ s.times := by
  induction t with
  | z => rfl
  | c n e r _ ih => simp [times, app, ih]
end T

theorem info_int : (Try.prog.info? 3).map (fun i => (i.zero, i.size, i.bytes)) = some (some (.int .i64 0), 1, 8) := by kernel_rfl
theorem info_ints : (Try.prog.info? 22).map (fun i => (i.zero, i.size, i.bytes)) = some (some (.slice none 0 0), 1, 24) := by kernel_rfl

theorem slice_oneCell (a : Option Addr) (n c : Nat) : ∀ u ∈ [Value.slice a n c], u.oneCell' = true := by
  intro u hu
  simp at hu
  subst hu
  rfl

/-- What is owned in another block stays owned behind an append. -/
theorem ho2b_of {w w' : World} {o : Obj} {B e n size : Nat} {v1 v2 : Value} {xs : List Value} (h2 : w.ownsRow B e size v2 n xs)
    (hg : (w.alloc o).grownBy w' v1.ownBlock) (hne : Hid (v1.ownBlock = none ∨ v1.ownBlock ≠ v2.ownBlock)) : w'.ownsRow B e size v2 n xs := by
  refine (h2.alloc o).kept hg ?_
  rcases hne.out with h | h
  · rw [h]; cases v2.ownBlock <;> simp
  · exact .inr (fun h' => h h'.symm)

/-- Rows of two types of elements lie in two blocks. -/
theorem own_ne {w : World} {B e n size B' e' n' size' : Nat} {v v' : Value} {xs xs' : List Value} (h : w.ownsRow B e size v n xs) (h' : w.ownsRow B' e' size' v' n' xs') (hne : e ≠ e') :
    v.ownBlock = none ∨ v.ownBlock ≠ v'.ownBlock := by
  rcases h.2 with ⟨rfl, _⟩ | ⟨g, cap, cur, rfl, _, hg, _⟩
  · exact .inl rfl
  · right
    rcases h'.2 with ⟨rfl, _⟩ | ⟨g', cap', cur', rfl, _, hg', _⟩
    · simp [Value.ownBlock]
    · intro he
      simp [Value.ownBlock] at he
      subst he
      rw [hg] at hg'
      simp at hg'
      exact hne hg'.2

theorem kept_of {w w' : World} {o : Obj} {B e n size : Nat} {v1 v2 : Value} {xs : List Value} (h1 : w.ownsRow B e size v1 n xs)
    (hg : (w.alloc o).grownBy w' v2.ownBlock) (hne : v1.ownBlock = none ∨ v1.ownBlock ≠ v2.ownBlock) : w'.ownsRow B e size v1 n xs :=
  (h1.alloc o).kept hg hne

theorem le_of_alloc {w w' : World} {o : Obj} {row : Option Nat} (hg : (w.alloc o).grownBy w' row) : w.heap.size + 1 ≤ w'.heap.size := by
  have := hg.size
  simpa using this

set_option maxRecDepth 100000 in
set_option maxHeartbeats 1000000 in
theorem l1Terms_any (b off len cap : Nat) (xs : List Int) (t : T) (w : World) (hl : xs.length = len) (hb : len ≤ 1000000000000) (hlc : len ≤ cap) (hcm : cap ≤ maxLen) (hat : At w b off xs) (hx : xs = t.enc) :
    Calls Try.prog 100 #[.slice (some ⟨b, off, none⟩) len cap] w fun e w' => ∃ v1 v2 es, e = .returned (.tuple #[v1, v2]) ∧
      w'.ownsRow w.heap.size 3 1 v1 t.cnt (t.times.map (.int .i64)) ∧ w'.ownsRow w.heap.size 22 1 v2 t.cnt es ∧ EC w' t es ∧ (v1.ownBlock = none ∨ v1.ownBlock ≠ v2.ownBlock) ∧ Below w.heap.size w w' := by
  have h0 : xs.drop 0 = (t.cnt : Int) :: t.body := by rw [hx]; rfl
  have hel : t.body.length + 1 = len := by rw [← hl, hx, T.enc_len]
  obtain ⟨i0, hi, hz0, hz1, hz2⟩ := info_parts info_int
  obtain ⟨j0, hj, hy0, hy1, hy2⟩ := info_parts info_ints
  have H0 := Lib.hid (drop_more h0)
  have H1 := Lib.hid hx
  have H2 := Lib.hid hl
  have H3 := Lib.hid hel
  clear h0 hx hl hel
  go_enter Try.func100, Try.ntmps100
  go_wp2_with fail
  go_loopw [4, 5, 6] (fun v1 v2 i wr => ∃ (a : Nat) (d u : T) (es : List Value), 1 ≤ a ∧ a ≤ len ∧ Hid (a + u.body.length = len ∧ d.app u = t ∧ xs.drop a = u.body) ∧ i = .int .i64 a ∧
      wr.ownsRow w.heap.size 3 1 v1 d.cnt (d.times.map (.int .i64)) ∧ wr.ownsRow w.heap.size 22 1 v2 d.cnt es ∧ EC w d es ∧ Below w.heap.size w wr) (fun _ _ i _ => len - (intOf i).toNat)
  case atStart =>
    refine ⟨1, .z, t, [], by omega, by have := H3.out; omega, ⟨by have := H3.out; omega, rfl, H0.out⟩, rfl, ?_, ?_, rfl, ?_⟩
    · exact (World.ownsRow_lit w #[] 0 (Nat.le_refl _) (by simp [maxLen]) rfl).alloc _
    · have h := World.ownsRow_lit (base := w.heap.size) (e := 22) (size := 1) (w.alloc (.cells #[] 3)) #[] 0 (by simp) (by simp [maxLen]) rfl
      rw [World.size_alloc] at h
      exact h
    · exact ((Below.refl _ _).alloc (Nat.le_refl _) _).alloc (by simp) _
  case round =>
    obtain ⟨a, d, u, es, ha1, ha2, HU, rfl, ho1, ho2, hE, hbel⟩ := hrel
    obtain ⟨h1, h2, h3⟩ := HU.out
    cases u with
    | z =>
      have hae : a = len := by simpa [T.body] using h1
      subst hae
      have hdt : d = t := by rw [T.app_z] at h2; exact h2
      subst hdt
      clear h1 h2 h3
      go_wp2_with fail
      go_ret2
      exact ⟨_, _, _, rfl, ho1, ho2, hE.below hbel, own_ne ho1 ho2 (by decide), hbel⟩
    | c n e r =>
      have hd0 : xs.drop a = n :: (e.enc ++ r.body) := by rw [h3, T.body_c]
      have hc0 := (hbel.cell (p := ⟨b, off + a, none⟩) (by exact hat.lt (by rw [H1.out]; exact T.enc_ne t))).trans (hat.get hd0)
      have hd1 := drop_more hd0
      have hee := T.enc_len e
      have hal : a + 1 + e.enc.length + r.body.length = len := by rw [T.body_c] at h1; simp at h1; omega
      have hal2 : a + 1 + e.enc.length ≤ len := by omega
      have hpos : 1 ≤ e.enc.length := by omega
      have hdl : d.cnt ≤ len := by
        have := T.cnt_le t
        have h5 := T.app_cnt d (.c n e r)
        rw [h2] at h5
        have := H3.out
        omega
      have hatw : At wr b off xs := hat.below hbel (hat.lt (by rw [H1.out]; exact T.enc_ne t))
      have hate : At w b (off + (a + 1)) e.enc := (hd1 ▸ hat.drop (a + 1)).left
      have Hal := Lib.hid hal
      have Hd2 := Lib.hid (drop_app hd1)
      have Happ := Lib.hid h2
      have sp := Lib.hid (l1Span_any (e.body.length + 1) b off len cap (a + 1) xs r.body e wr (by omega) H2.out hb hatw hd1)
      have Hate := Lib.hid hate
      have Hne := Lib.hid (own_ne ho1 ho2 (by decide))
      have Hbel := Lib.hid hbel
      have hsz := hbel.size
      clear h1 h2 h3 hd0 hd1 hee hal hatw hate hbel
      go_wp2_with fail
      refine (sp.out).mono ?_
      rintro ee w' ⟨rfl, rfl⟩
      go_wp2_with (first
        | (at_builtin; refine wpList_append_own _ rfl (.tmp 18) (.tmp 23) 22 rfl w.heap.size 3 i0 (.int .i64 0) 1 8 Try.underlying22 hi hz0 hz1 hz2 rfl (by decide) _ _ _ rfl (ho1.alloc _) ⟨wr.heap.size, 0, none⟩ 1 1 [.int .i64 n] rfl rfl (cell_one_new _ _ _) (ints_oneCell _ [n]) (by unfold maxLen; omega) (by omega) (by simp; omega) ?_; intro v1' w1 ho1' hg1 _; have ho2b := ho2b_of ho2 hg1 Hne; have hq2 := le_of_alloc hg1)
        | (at_builtin; refine wpList_append_own _ rfl (.tmp 25) (.tmp 31) 59 rfl w.heap.size 22 j0 (.slice none 0 0) 1 24 Try.underlying59 hj hy0 hy1 hy2 rfl (by decide) _ _ _ rfl (ho2b.alloc _) ⟨w1.heap.size, 0, none⟩ 1 1 [.slice (some ⟨b, off + (a + 1), none⟩) e.enc.length (cap - (a + 1))] rfl rfl (cell_one_new _ _ _) (slice_oneCell _ _ _) (by unfold maxLen; omega) (by omega) (by simp; omega) ?_; intro v2' w2 ho2' hg2 _))
      go_roundw
      case rel =>
        have hb1 := (Hbel.out.alloc (by omega) _).grown hg1 (by simp; omega) (fun k hk => (ho1.lt k hk).1)
        have hb2 := (hb1.alloc (by omega) _).grown hg2 (by simp; omega) (fun k hk => (ho2.lt k hk).1)
        refine ⟨a + 1 + e.enc.length, d.app (.c n e .z), r, es ++ [.slice (some ⟨b, off + (a + 1), none⟩) e.enc.length (cap - (a + 1))], by omega, by omega, ⟨Hal.out, ?_, Hd2.out⟩, by go_num, ?_, ?_, hE.snoc Hate.out (by omega) (by omega), hb2⟩
        · rw [T.app_assoc]; exact Happ.out
        · rw [T.app_cnt, T.times_app, List.map_append]
          exact kept_of ho1' hg2 (own_ne ho1' ho2b (by decide))
        · rw [T.app_cnt]; exact ho2'
      case measure => simp [intOf]; omega

end Go.Proofs.Ytdcgcohfbcdnnaa
