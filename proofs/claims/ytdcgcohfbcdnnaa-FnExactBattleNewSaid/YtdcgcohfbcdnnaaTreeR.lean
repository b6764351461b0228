/- What is read of nodes: isHead, heads, row. -/
import Derived.Test.YtdcgcohfbcdnnaaTreeG
import Derived.Test.YtdcgcohfbcdnnaaHydK
namespace Go.Proofs.Ytdcgcohfbcdnnaa
set_option maxRecDepth 100000
open Go.RowKit

theorem node_isHead (f : H) (p m : Nat) (w : World) (h : Nd w f p m) :
    Calls Try.prog 74 #[.pointer (some ⟨p, 0, none⟩)] w fun e w' => e = .returned (.bool ((f.cnt : Int) == 0)) ∧ w = w' := by
  obtain ⟨ao, c, us, q1, q2, q3, q4, q5⟩ := h
  have xp : w.cell? ⟨p, 0, none⟩ = some (.slice ao f.cnt c) := Joins.cell_of_block q2 0
  obtain ⟨K, hK⟩ : ∃ K, K = f.cnt := ⟨_, rfl⟩
  rw [← hK] at xp ⊢
  clear q2 q3 q4 q5 hK
  go_enter Try.func74, Try.ntmps74
  go_wp2_with fail
  go_ret
  exact ⟨rfl, rfl⟩

theorem H.noughts_snocF (d k : H) : H.noughts (d.app (.c k .z)).body = H.noughts d.body + H.noughts k.enc := by
  rw [H.app_body, H.body_c, H.noughts_app, H.noughts_app]; simp [H.body, H.noughts]
theorem H.heads_pos' {f : H} (h : f ≠ .z) : H.heads f = (H.noughts f.body : Int) := by
  unfold H.heads
  have : f.cnt ≠ 0 := fun e => h (H.cnt_zero e)
  rw [H.enc, H.noughts, if_neg (by omega)]; simp

set_option maxHeartbeats 2000000 in
theorem node_heads (N : Nat) : ∀ (f : H) (p m : Nat) (w : World), f.body.length < N → f.body.length ≤ 1000 → Nd w f p m →
    Calls Try.prog 73 #[.pointer (some ⟨p, 0, none⟩)] w fun e w' => e = .returned (.int .i64 (H.heads f)) ∧ w = w' := by
  induction N with
  | zero => intro f p m w h; omega
  | succ N ih =>
    intro f p m w hN hl hnd
    have k1 := Lib.hid (node_isHead f p m w hnd)
    obtain ⟨ao, c, us, q1, q2, q3, q4, q5⟩ := hnd
    have hct := H.cnt_le f
    have xp : w.cell? ⟨p, 0, none⟩ = some (.slice ao f.cnt c) := Joins.cell_of_block q2 0
    by_cases hz : f = .z
    · subst hz
      have h1 : H.heads .z = 1 := rfl
      rw [h1]
      have h2 : (((H.z).cnt : Int) == 0) = true := rfl
      rw [h2] at k1
      clear q2 q3 q4 q5 ih hN hl hct h1 h2
      go_enter Try.func73, Try.ntmps73
      go_wp2_with fail
      refine (k1.out).mono ?_
      rintro ee w' ⟨rfl, rfl⟩
      go_wp2_with fail
      go_ret
      exact ⟨rfl, rfl⟩
    · have h2 : ((f.cnt : Int) == 0) = false := beq_eq_false_iff_ne.2 (fun e => hz (H.cnt_zero (by omega)))
      rw [h2] at k1
      rw [H.heads_pos' hz]
      obtain ⟨K, hK⟩ : ∃ K, K = f.cnt := ⟨_, rfl⟩
      rw [← hK] at xp q3
      have hK1 : K ≤ 1000 := by omega
      obtain ⟨tot, htot⟩ : ∃ t, t = H.noughts f.body := ⟨_, rfl⟩
      have htl : tot ≤ 1000 := by rw [htot]; exact Nat.le_trans (H.noughts_le _) hl
      rw [← htot]
      have IH := Lib.hid ih
      have HN := Lib.hid hN
      have HK := Lib.hid hK
      have Hl := Lib.hid hl
      have Ht := Lib.hid htot
      have Hq3 := Lib.hid q3
      have Hq5 := Lib.hid q5
      clear ih hN hK hl htot q2 q3 q4 q5 hct h2
      go_enter Try.func73, Try.ntmps73
      go_wp2_with fail
      refine (k1.out).mono ?_
      rintro ee w' ⟨rfl, rfl⟩
      go_wp2_with fail
      go_loop [3, 13] (fun v3 v13 => ∃ (i n : Nat) (d u : H), Hid (d.app u = f ∧ d.cnt = i ∧ n = H.noughts d.body) ∧ n ≤ tot ∧ i + u.cnt = K ∧ v3 = .int .i64 n ∧ v13 = .int .i64 i) (fun _ v13 => K - (intOf v13).toNat)
      case atStart => exact ⟨0, 0, .z, f, ⟨rfl, rfl, rfl⟩, Nat.zero_le _, by rw [HK.out]; simp, rfl, rfl⟩
      case round =>
        obtain ⟨i, n, d, u, HU, hn, hci, rfl, rfl⟩ := hrel
        by_cases hlt : i < K
        · obtain ⟨k, r, rfl⟩ : ∃ k r, u = .c k r := H.cnt_pos (by omega)
          obtain ⟨h1, h2, h3⟩ := HU.out
          obtain ⟨q, mq, x1, x2, x3, x4, x5⟩ := Hq5.out.pick h1 h2
          obtain ⟨ga, ca, hva⟩ := Joins.ownsRow_form Hq3.out (by omega)
          simp only [Value.slice.injEq, true_and] at hva
          obtain ⟨rfl, rfl⟩ := hva
          have y1 : w.cell? ⟨ga, i, none⟩ = some (.pointer (some ⟨q, 0, none⟩)) := (Hq3.out.cellAt i (by omega)).trans x1
          have hbody : d.body.length + (k.body.length + 1 + r.body.length) = f.body.length := by rw [← h1, H.app_body, List.length_append, H.body_c, List.length_append, H.enc_len]
          have kn := Lib.hid (IH.out k q mq w (by have := HN.out; omega) (by have := Hl.out; omega) x5)
          have hsum : n + H.noughts k.enc ≤ tot := by
            have e1 : f.body = d.body ++ (k.enc ++ r.body) := by rw [← h1, H.app_body, H.body_c]
            have e2 := congrArg H.noughts e1
            rw [H.noughts_app, H.noughts_app, ← h3, ← Ht.out] at e2
            omega
          obtain ⟨hk, hhk⟩ : ∃ hk : Nat, hk = H.noughts k.enc := ⟨_, rfl⟩
          have hkk : H.heads k = (hk : Int) := by rw [hhk]; rfl
          rw [hkk] at kn
          rw [← hhk] at hsum
          have Hsn := Lib.hid (show n + hk = H.noughts (d.app (.c k .z)).body by rw [H.noughts_snocF, ← h3, hhk])
          have Hci := Lib.hid hci
          clear h1 h2 h3 x1 x2 x3 x4 x5 hbody hhk hkk hci
          go_wp2_with fail
          refine (kn.out).mono ?_
          rintro ee w' ⟨rfl, rfl⟩
          go_wp2_with fail
          go_round
          case rel =>
            obtain ⟨h1, h2, h3⟩ := HU.out
            exact ⟨i + 1, n + hk, d.app (.c k .z), r, ⟨by rw [H.app_assoc]; exact h1, by rw [H.app_cnt, h2]; rfl, Hsn.out⟩, hsum, by have := Hci.out; simp only [H.cnt] at this; omega, by go_num, by go_num⟩
          case measure => simp [intOf]; omega
        · obtain ⟨h1, h2, h3⟩ := HU.out
          have hu : u = .z := H.cnt_zero (by omega)
          subst hu
          have hdf : d = f := by rw [H.app_z] at h1; exact h1
          have hfin : n = tot := by rw [h3, Ht.out, hdf]
          have Hf := Lib.hid hfin
          clear h1 h2 h3 hci hdf hfin
          go_wp2_with fail
          go_ret
          exact ⟨ret_int (by rw [Hf.out]), rfl⟩

/-- What can be read of nodes, wherever they lie: one node may stand at several places. -/
def RK (w : World) : H → List Value → Prop
  | .z, vs => vs = []
  | .c k r, vs => ∃ (p : Nat) (ao : Option Addr) (c : Nat) (us vs' : List Value), vs = .pointer (some ⟨p, 0, none⟩) :: vs' ∧ w.cell? ⟨p, 0, none⟩ = some (.slice ao k.cnt c) ∧
      (0 < k.cnt → ∃ g, ao = some ⟨g, 0, none⟩ ∧ g < w.heap.size ∧ ∀ j, j < k.cnt → w.cell? ⟨g, j, none⟩ = us[j]?) ∧ RK w k us ∧ RK w r vs'
def RNd (w : World) (f : H) (p : Nat) : Prop :=
  ∃ (ao : Option Addr) (c : Nat) (us : List Value), w.cell? ⟨p, 0, none⟩ = some (.slice ao f.cnt c) ∧ (0 < f.cnt → ∃ g, ao = some ⟨g, 0, none⟩ ∧ g < w.heap.size ∧ ∀ j, j < f.cnt → w.cell? ⟨g, j, none⟩ = us[j]?) ∧ RK w f us

theorem RK.cons {w : World} {k r : H} {vs : List Value} : RK w (.c k r) vs ↔ ∃ (p : Nat) (vs' : List Value), vs = .pointer (some ⟨p, 0, none⟩) :: vs' ∧ RNd w k p ∧ RK w r vs' := by
  constructor
  · rintro ⟨p, ao, c, us, vs', h1, h2, h3, h4, h5⟩; exact ⟨p, vs', h1, ⟨ao, c, us, h2, h3, h4⟩, h5⟩
  · rintro ⟨p, vs', h1, ⟨ao, c, us, h2, h3, h4⟩, h5⟩; exact ⟨p, ao, c, us, vs', h1, h2, h3, h4, h5⟩

theorem RK.below {w w' : World} {f : H} {vs : List Value} (h : RK w f vs) (hb : Below w.heap.size w w') : RK w' f vs := by
  induction f generalizing vs with
  | z => exact h
  | c k r ihk ihr =>
    obtain ⟨p, ao, c, us, vs', h1, h2, h3, h4, h5⟩ := h
    refine ⟨p, ao, c, us, vs', h1, (hb.cell (p := ⟨p, 0, none⟩) (World.block_lt_of_cell? w _ h2)).trans h2, fun hp => ?_, ihk h4, ihr h5⟩
    obtain ⟨g, q1, q2, q3⟩ := h3 hp
    exact ⟨g, q1, Nat.lt_of_lt_of_le q2 hb.size, fun j hj => (hb.cell (p := ⟨g, j, none⟩) q2).trans (q3 j hj)⟩
theorem RNd.below {w w' : World} {f : H} {p : Nat} (h : RNd w f p) (hb : Below w.heap.size w w') : RNd w' f p := by
  obtain ⟨ao, c, us, h2, h3, h4⟩ := h
  refine ⟨ao, c, us, (hb.cell (p := ⟨p, 0, none⟩) (World.block_lt_of_cell? w _ h2)).trans h2, fun hp => ?_, h4.below hb⟩
  obtain ⟨g, q1, q2, q3⟩ := h3 hp
  exact ⟨g, q1, Nat.lt_of_lt_of_le q2 hb.size, fun j hj => (hb.cell (p := ⟨g, j, none⟩) q2).trans (q3 j hj)⟩

theorem own_cells {w : World} {B n c : Nat} {ao : Option Addr} {e : TypeId} {us : List Value} (h : w.ownsRow B e 1 (.slice ao n c) n us) : 0 < n → ∃ g, ao = some ⟨g, 0, none⟩ ∧ g < w.heap.size ∧ ∀ j, j < n → w.cell? ⟨g, j, none⟩ = us[j]? := by
  intro hp
  obtain ⟨g, c', hv⟩ := Joins.ownsRow_form h hp
  simp only [Value.slice.injEq, true_and] at hv
  obtain ⟨rfl, rfl⟩ := hv
  exact ⟨g, rfl, (h.lt g rfl).2, fun j hj => h.cellAt j (by omega)⟩

theorem Kids.rk {w : World} {f : H} {a : Option Nat} {vs : List Value} {lo hi : Nat} (h : Kids w f a vs lo hi) : RK w f vs := by
  induction f generalizing a vs lo hi with
  | z => exact h
  | c k r ihk ihr =>
    obtain ⟨p, m, ao, c, us, vs', h1, h2, h3, h4, h5, h6, h7, h8, h9, h10⟩ := h
    exact ⟨p, ao, c, us, vs', h1, Joins.cell_of_block h6 0, own_cells h7, ihk h9, ihr h10⟩
theorem Nd.rnd {w : World} {f : H} {p m : Nat} (h : Nd w f p m) : RNd w f p := by
  obtain ⟨ao, c, us, q1, q2, q3, q4, q5⟩ := h
  exact ⟨ao, c, us, Joins.cell_of_block q2 0, own_cells q3, q5.rk⟩

theorem RK.pick {w : World} {t d e r : H} {vs : List Value} {i : Nat} (h : RK w t vs) (h1 : d.app (.c e r) = t) (h2 : d.cnt = i) : ∃ p, vs[i]? = some (.pointer (some ⟨p, 0, none⟩)) ∧ RNd w e p := by
  induction d generalizing t vs i with
  | z =>
    subst h1; subst h2
    obtain ⟨p, vs', rfl, q4, q5⟩ := RK.cons.1 h
    exact ⟨p, rfl, q4⟩
  | c k q _ ih =>
    subst h1; subst h2
    obtain ⟨p, vs', rfl, q4, q5⟩ := RK.cons.1 h
    obtain ⟨p', k1, k2⟩ := ih q5 rfl rfl
    exact ⟨p', by simp only [H.cnt, List.getElem?_cons_succ]; exact k1, k2⟩

set_option maxHeartbeats 2000000 in
theorem node_row (N : Nat) : ∀ (f : H) (p : Nat) (w : World), f.body.length < N → f.enc.length ≤ 10000 → RNd w f p →
    Calls Try.prog 55 #[.pointer (some ⟨p, 0, none⟩)] w (RowPost w f.enc) := by
  induction N with
  | zero => intro f p w h; omega
  | succ N ih =>
    intro f p w hN hl hnd
    obtain ⟨i0, hi, hz0, hz1, hz2⟩ := info_parts info_int
    obtain ⟨ao, c, us, xp, q3, q5⟩ := hnd
    have hct := H.cnt_le f
    have hel := H.enc_len f
    have hpl : p < w.heap.size := World.block_lt_of_cell? w _ xp
    obtain ⟨K, hK⟩ : ∃ K, K = f.cnt := ⟨_, rfl⟩
    rw [← hK] at xp q3
    have hK1 : K ≤ 10000 := by omega
    have xp2 : (w.alloc (.cells #[.int .i64 K] 3)).cell? ⟨p, 0, none⟩ = some (.slice ao K c) := by rw [World.cell?_alloc_past _ _ _ hpl]; exact xp
    obtain ⟨rf, hrf⟩ : ∃ rf, rf = f.enc := ⟨_, rfl⟩
    rw [← hrf]
    have Hrf := Lib.hid hrf
    have IH := Lib.hid ih
    have HN := Lib.hid hN
    have HK := Lib.hid hK
    have Hl := Lib.hid hl
    have Hq3 := Lib.hid q3
    have Hq5 := Lib.hid q5
    clear ih hN hK hl q3 q5 hct hel hrf
    go_enter Try.func55, Try.ntmps55
    go_wp2_with fail
    go_loopw [3, 17] (fun v3 v17 wr => ∃ (i mm : Nat) (d u : H) (a3 : Option Addr) (c3 : Nat), Hid (d.app u = f ∧ d.cnt = i ∧ mm = 1 + d.body.length ∧ mm + u.body.length = f.enc.length) ∧ i + u.cnt = K ∧ v17 = .int .i64 i ∧ v3 = .slice a3 mm c3 ∧ wr.ownsRow w.heap.size 3 1 v3 mm (ints ((K : Int) :: d.body)) ∧ Below w.heap.size w wr) (fun _ i _ => K - (intOf i).toNat)
    case atStart => exact ⟨0, 1, .z, f, _, _, ⟨rfl, rfl, rfl, by rw [H.enc_len]; omega⟩, by rw [HK.out]; simp, rfl, rfl, World.ownsRow_lit w _ 1 (Nat.le_refl _) (by simp [maxLen]) rfl, (Below.refl _ _).alloc (Nat.le_refl _) _⟩
    case round =>
      obtain ⟨i, mm, d, u, a3, c3, HU, hci, rfl, rfl, ho, hbr⟩ := hrel
      by_cases hlt : i < K
      · obtain ⟨k, r, rfl⟩ : ∃ k r, u = .c k r := H.cnt_pos (by omega)
        obtain ⟨h1, h2, h3, h4⟩ := HU.out
        obtain ⟨q, x1, x5⟩ := Hq5.out.pick h1 h2
        obtain ⟨ga, rfl, hgl, hcs⟩ := Hq3.out (by omega)
        have y1 : wr.cell? ⟨ga, i, none⟩ = some (.pointer (some ⟨q, 0, none⟩)) := (hbr.cell (p := ⟨ga, i, none⟩) hgl).trans ((hcs i hlt).trans x1)
        have hbody : d.body.length + (k.body.length + 1 + r.body.length) = f.body.length := by rw [← h1, H.app_body, List.length_append, H.body_c, List.length_append, H.enc_len]
        have hke := H.enc_len k
        have hfe := H.enc_len f
        have hle := Hl.out
        have kn := Lib.hid (IH.out k q wr (by have := HN.out; omega) (by omega) (x5.below hbr))
        unfold RowPost at kn
        obtain ⟨L, hL⟩ : ∃ L, L = k.enc.length := ⟨_, rfl⟩
        have hml : mm + L + r.body.length = f.enc.length := by rw [H.body_c, List.length_append] at h4; omega
        have hmb : mm + L ≤ 10000 := by omega
        have hL1 : 1 ≤ L := by omega
        rw [← hL] at kn
        have HLk := Lib.hid hL
        have Hml := Lib.hid hml
        have Hci := Lib.hid hci
        have Ho := Lib.hid ho
        have Hbr := Lib.hid hbr
        clear h1 h2 h3 h4 hci hcs x1 x5 hbody hke hfe hle hL hml ho hbr
        go_wp2_with (first
          | (go_at_call 55; (with_reducible refine (kn.out).mono ?_); rintro ee w2 ⟨a8, c8, rfl, ho8, hb8⟩; have Ho2 := Lib.hid (ownsRow_below' Ho.out hb8); have Hb2 := Lib.hid (Hbr.out.trans (hb8.mono Hbr.out.size)); have hs2 := Hb2.out.size; obtain ⟨g8, c8', hv8⟩ := Joins.ownsRow_form ho8 (by omega); simp only [Value.slice.injEq, true_and] at hv8; obtain ⟨rfl, rfl⟩ := hv8; have Hn8 := Lib.hid (ho8.cells (g := g8) rfl); have Hl8 := Lib.hid (show (ints k.enc).length = L * 1 from ho8.1); clear ho8 hb8)
          | (at_builtin; refine wpList_append_own _ rfl (.tmp 21) (.tmp 23) 22 rfl w.heap.size 3 i0 (.int .i64 0) 1 8 Try.underlying22 hi hz0 hz1 hz2 rfl (by decide) _ _ _ rfl Ho2.out ⟨g8, 0, none⟩ L c8 (ints k.enc) rfl Hl8.out Hn8.out (ints_one _) (by unfold maxLen; omega) (by omega) (by omega) ?_; intro v6 w3 ho3 hg3 _))
        obtain ⟨a6, c6, rfl, _⟩ := own_form ho3
        have hb3 := Hb2.out.grown hg3 (by omega) (fun q hq => (Ho2.out.lt q hq).1)
        have ho4 : w3.ownsRow w.heap.size 3 1 (.slice a6 (mm + L) c6) (mm + L) (ints ((K : Int) :: (d.app (.c k .z)).body)) := by
          have e1 : ints ((K : Int) :: (d.app (.c k .z)).body) = ints ((K : Int) :: d.body) ++ ints k.enc := by
            rw [H.app_body, H.body_c]; simp [ints, H.body]
          rw [e1]; exact ho3
        have Ho4 := Lib.hid ho4
        have Hb3 := Lib.hid hb3
        clear ho3 hg3 ho4 hb3
        go_roundw
        case rel =>
          obtain ⟨h1, h2, h3, h4⟩ := HU.out
          refine ⟨i + 1, mm + L, d.app (.c k .z), r, a6, c6, ⟨by rw [H.app_assoc]; exact h1, by rw [H.app_cnt, h2]; rfl, ?_, Hml.out⟩, by have := Hci.out; simp only [H.cnt] at this; omega, by go_num, rfl, Ho4.out, Hb3.out⟩
          rw [H.app_body, H.body_c, HLk.out]; simp [H.body]; omega
        case measure => simp [intOf]; omega
      · obtain ⟨h1, h2, h3, h4⟩ := HU.out
        have hu : u = .z := H.cnt_zero (by omega)
        subst hu
        have hdf : d = f := by rw [H.app_z] at h1; exact h1
        subst hdf
        have hmf : mm = d.enc.length := by simpa [H.body] using h4
        have hp : RowPost w rf (.returned (.slice a3 mm c3)) wr := by
          rw [Hrf.out]
          refine ⟨a3, c3, by rw [hmf], ?_, hbr⟩
          rw [← hmf]
          have e1 : d.enc = (K : Int) :: d.body := by rw [HK.out]; rfl
          rw [e1]
          exact ho
        have Hp := Lib.hid hp
        clear h1 h2 h3 h4 hci hmf ho hbr hp
        go_wp2_with fail
        go_ret
        exact Hp.out

end Go.Proofs.Ytdcgcohfbcdnnaa
