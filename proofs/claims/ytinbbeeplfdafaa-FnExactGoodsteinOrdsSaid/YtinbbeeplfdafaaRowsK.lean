/- Rows of rows: in new memory, in the exact laws. -/
import Derived.Test.YtinbbeeplfdafaaPost
import Derived.Test.YtinbbeeplfdafaaMark
import Derived.Test.YtinbbeeplfdafaaSlow
import Derived.Deep.RegionHeld3
namespace Go.Proofs.Ytinbbeeplfdafaa
open Go.RowKit

/-- The rows of numbers lie in new memory, from the block B on. -/
def RowsI (B : Nat) (w : World) (vs : List Value) (xss : List (List Int)) : Prop :=
  vs.length = xss.length ∧ ∀ (i : Nat) (xs : List Int), xss[i]? = some xs → ∃ g c, vs[i]? = some (.slice (some ⟨g, 0, none⟩) xs.length c) ∧ w.ownsRow B 3 1 (.slice (some ⟨g, 0, none⟩) xs.length c) xs.length (ints xs)
/-- The rows of these ordinals. -/
def RowsT (B : Nat) (w : World) (vs : List Value) (ts : List T) : Prop := RowsI B w vs (ts.map T.enc)
theorem own_block {w : World} {B n c g : Nat} {xs : List Value} (h : w.ownsRow B 3 1 (.slice (some ⟨g, 0, none⟩) n c) n xs) : B ≤ g ∧ ∃ cur, w.heap[g]? = some (.cells cur 3 (0, 0)) := by
  obtain ⟨_, ⟨h, _⟩ | ⟨g', cap, cur, he, hB, hc, _⟩⟩ := h
  · cases h
  · cases he
    exact ⟨hB, cur, hc⟩
theorem own_of_block {w w' : World} {B n c g : Nat} {xs : List Value} (h : w.ownsRow B 3 1 (.slice (some ⟨g, 0, none⟩) n c) n xs) (hb : w'.heap[g]? = w.heap[g]?) : w'.ownsRow B 3 1 (.slice (some ⟨g, 0, none⟩) n c) n xs := by
  obtain ⟨h1, ⟨h, _⟩ | ⟨g', cap, cur, he, hB, hc, hrest⟩⟩ := h
  · cases h
  · cases he
    exact ⟨h1, .inr ⟨g, c, cur, rfl, hB, hb.trans hc, hrest⟩⟩
theorem RowsI.nil (B : Nat) (w : World) : RowsI B w [] [] := ⟨rfl, fun i t h => by simp at h⟩
theorem RowsT.nil (B : Nat) (w : World) : RowsT B w [] [] := RowsI.nil B w
theorem RowsI.snoc {B : Nat} {w : World} {vs : List Value} {ts : List (List Int)} (h : RowsI B w vs ts) {g c : Nat} {t : List Int} (h1 : w.ownsRow B 3 1 (.slice (some ⟨g, 0, none⟩) t.length c) t.length (ints t)) :
    RowsI B w (vs ++ [.slice (some ⟨g, 0, none⟩) t.length c]) (ts ++ [t]) := by
  refine ⟨by simp [h.1], fun i u hu => ?_⟩
  rcases Nat.lt_or_ge i ts.length with hi | hi
  · rw [List.getElem?_append_left hi] at hu
    rw [List.getElem?_append_left (by rw [h.1]; exact hi)]
    exact h.2 i u hu
  · rw [List.getElem?_append_right hi] at hu
    rw [List.getElem?_append_right (by rw [h.1]; exact hi)]
    obtain ⟨hlt, hu'⟩ := List.getElem?_eq_some_iff.1 hu
    have hi0 : i - ts.length = 0 := by simp at hlt; omega
    rw [hi0] at hu
    simp at hu
    subst hu
    exact ⟨g, c, by rw [h.1, hi0]; rfl, h1⟩
theorem RowsT.snoc {B : Nat} {w : World} {vs : List Value} {ts : List T} (h : RowsT B w vs ts) {g c : Nat} {t : T} (h1 : w.ownsRow B 3 1 (.slice (some ⟨g, 0, none⟩) t.enc.length c) t.enc.length (ints t.enc)) :
    RowsT B w (vs ++ [.slice (some ⟨g, 0, none⟩) t.enc.length c]) (ts ++ [t]) := by
  have := RowsI.snoc h h1
  rw [RowsT, List.map_append]
  exact this
theorem RowsI.kept {B : Nat} {w w' : World} {vs : List Value} {ts : List (List Int)} (h : RowsI B w vs ts) (hk : ∀ g cur, B ≤ g → w.heap[g]? = some (.cells cur 3 (0, 0)) → w'.heap[g]? = w.heap[g]?) : RowsI B w' vs ts := by
  refine ⟨h.1, fun i t ht => ?_⟩
  obtain ⟨g, c, h1, h2⟩ := h.2 i t ht
  obtain ⟨hB, cur, hc⟩ := own_block h2
  exact ⟨g, c, h1, own_of_block h2 (hk g cur hB hc)⟩
theorem RowsT.kept {B : Nat} {w w' : World} {vs : List Value} {ts : List T} (h : RowsT B w vs ts) (hk : ∀ g cur, B ≤ g → w.heap[g]? = some (.cells cur 3 (0, 0)) → w'.heap[g]? = w.heap[g]?) : RowsT B w' vs ts := RowsI.kept h hk
theorem RowsT.le {B B' : Nat} {w : World} {vs : List Value} {ts : List T} (h : RowsT B w vs ts) (hB : B' ≤ B) : RowsT B' w vs ts :=
  ⟨h.1, fun i t ht => by
    obtain ⟨g, c, h1, h2⟩ := h.2 i t ht
    exact ⟨g, c, h1, Joins.ownsRow_le h2 hB⟩⟩

/-- The rows lie one behind the other, below the block U. -/
def Blocks (U : Nat) (vs : List Value) : Prop :=
  (∀ (i g n c : Nat), vs[i]? = some (.slice (some ⟨g, 0, none⟩) n c) → g < U) ∧ ∀ (i j g n c g' n' c' : Nat), i < j → vs[i]? = some (.slice (some ⟨g, 0, none⟩) n c) → vs[j]? = some (.slice (some ⟨g', 0, none⟩) n' c') → g < g'
theorem Blocks.nil (U : Nat) : Blocks U [] := ⟨fun i g n c h => by simp at h, fun i j g n c g' n' c' _ h => by simp at h⟩
theorem snoc_get {vs : List Value} {v u : Value} {i : Nat} (h : (vs ++ [v])[i]? = some u) : (i < vs.length ∧ vs[i]? = some u) ∨ (i = vs.length ∧ v = u) := by
  rcases Nat.lt_or_ge i vs.length with hi | hi
  · rw [List.getElem?_append_left hi] at h
    exact .inl ⟨hi, h⟩
  · rw [List.getElem?_append_right hi] at h
    obtain ⟨hlt, _⟩ := List.getElem?_eq_some_iff.1 h
    have hi0 : i - vs.length = 0 := by simp at hlt; omega
    rw [hi0] at h
    simp at h
    exact .inr ⟨by omega, h⟩
theorem Blocks.snoc {U U' g n c : Nat} {vs : List Value} (h : Blocks U vs) (h1 : U ≤ g) (h2 : g < U') : Blocks U' (vs ++ [.slice (some ⟨g, 0, none⟩) n c]) := by
  refine ⟨fun i g' n' c' hi => ?_, fun i j g1 n1 c1 g2 n2 c2 hij hi hj => ?_⟩
  · rcases snoc_get hi with ⟨_, h3⟩ | ⟨_, h3⟩
    · have := h.1 i g' n' c' h3; omega
    · cases h3; exact h2
  · rcases snoc_get hi with ⟨k1, h3⟩ | ⟨k1, h3⟩
    · rcases snoc_get hj with ⟨k2, h4⟩ | ⟨k2, h4⟩
      · exact h.2 i j g1 n1 c1 g2 n2 c2 hij h3 h4
      · cases h4
        have := h.1 i g1 n1 c1 h3; omega
    · rcases snoc_get hj with ⟨k2, h4⟩ | ⟨k2, h4⟩
      · omega
      · omega


def tot : List (List Int) → Nat
  | [] => 0
  | x :: r => x.length + tot r
def markSS (k : Int) : List (List Int) → List (List Int)
  | [] => []
  | x :: r => marks k x.length :: markSS (k + x.length) r
theorem tot_snoc (l : List (List Int)) (x : List Int) : tot (l ++ [x]) = tot l + x.length := by
  induction l with
  | nil => simp [tot]
  | cons y l ih => simp only [List.cons_append, tot, ih]; omega
theorem markSS_snoc (k : Int) (l : List (List Int)) (x : List Int) : markSS k (l ++ [x]) = markSS k l ++ [marks (k + tot l) x.length] := by
  induction l generalizing k with
  | nil => simp [markSS, tot]
  | cons y l ih =>
    simp only [List.cons_append, markSS, ih, tot]
    rw [show k + (y.length : Int) + (tot l : Int) = k + ((y.length + tot l : Nat) : Int) by omega]
theorem markSS_len (k : Int) (l : List (List Int)) : (markSS k l).length = l.length := by
  induction l generalizing k with
  | nil => rfl
  | cons y l ih => simp [markSS, ih]
theorem tot_le {l : List (List Int)} (h : ∀ x ∈ l, x.length ≤ 60) : tot l ≤ 60 * l.length := by
  induction l with
  | nil => exact Nat.le_refl _
  | cons y l ih =>
    have h1 := h y (List.mem_cons_self ..)
    have h2 := ih (fun x hx => h x (List.mem_cons_of_mem _ hx))
    simp only [tot, List.length_cons]; omega
theorem markSS_get (k : Int) {l : List (List Int)} {i : Nat} {x : List Int} (h : l[i]? = some x) : (markSS k l)[i]? = some (marks (k + tot (l.take i)) x.length) := by
  induction l generalizing k i with
  | nil => simp at h
  | cons y l ih =>
    cases i with
    | zero =>
      simp at h
      subst h
      simp [markSS, tot]
    | succ i =>
      simp only [List.getElem?_cons_succ] at h
      simp only [markSS, List.getElem?_cons_succ, List.take_succ_cons, tot, ih _ h]
      rw [show k + (y.length : Int) + (tot (l.take i) : Int) = k + ((y.length + tot (l.take i) : Nat) : Int) by omega]

theorem row_pickI {w : World} {B B' n c k : Nat} {a : Option Addr} {vs : List Value} {ts : List (List Int)} {t : List Int} (ho : w.ownsRow B' 22 1 (.slice a n c) n vs) (hr : RowsI B w vs ts) (hn : n = ts.length) (ht : ts[k]? = some t) :
    ∃ g r cr, a = some ⟨g, 0, none⟩ ∧ g < w.heap.size ∧ w.cell? ⟨g, k, none⟩ = some (.slice (some ⟨r, 0, none⟩) t.length cr) ∧ vs[k]? = some (.slice (some ⟨r, 0, none⟩) t.length cr) ∧ w.ownsRow B 3 1 (.slice (some ⟨r, 0, none⟩) t.length cr) t.length (ints t) := by
  obtain ⟨r, cr, h1, h2⟩ := hr.2 k t ht
  have hk : k < n := by rw [hn]; exact (List.getElem?_eq_some_iff.1 ht).1
  obtain ⟨ao, cap, he, hf⟩ := own_form ho
  cases he
  obtain ⟨g, rfl, hg, hc⟩ := hf (by omega)
  exact ⟨g, r, cr, rfl, hg, (hc k hk).trans h1, h1, h2⟩
theorem RowsI.below {B : Nat} {w w' : World} {vs : List Value} {ts : List (List Int)} (h : RowsI B w vs ts) (hb : Below w.heap.size w w') : RowsI B w' vs ts :=
  h.kept (fun _ _ _ hc => hb.block _ (Array.getElem?_eq_some_iff.1 hc).1)

theorem RowsI.set {B U g c : Nat} {w w' : World} {vs : List Value} {ys zs : List (List Int)} {x x' : List Int} (h : RowsI B w vs (ys ++ x :: zs)) (hb : Blocks U vs) (hv : vs[ys.length]? = some (.slice (some ⟨g, 0, none⟩) x.length c)) (hg : w.grownBy w' (some g)) (hl : x'.length = x.length)
    (ho : w'.ownsRow B 3 1 (.slice (some ⟨g, 0, none⟩) x'.length c) x'.length (ints x')) : RowsI B w' vs (ys ++ x' :: zs) := by
  refine ⟨by rw [h.1]; simp, fun i xs hi => ?_⟩
  rcases Nat.lt_trichotomy i ys.length with hlt | heq | hgt
  · rw [List.getElem?_append_left hlt] at hi
    obtain ⟨g1, c1, h1, h2⟩ := h.2 i xs (by rw [List.getElem?_append_left hlt]; exact hi)
    have hne := hb.2 i ys.length g1 _ _ g _ _ hlt h1 hv
    obtain ⟨_, cur, hc⟩ := own_block h2
    exact ⟨g1, c1, h1, own_of_block h2 (hg.block g1 (Array.getElem?_eq_some_iff.1 hc).1 (fun e => by have := Option.some.inj e; omega))⟩
  · subst heq
    rw [List.getElem?_append_right (Nat.le_refl _), Nat.sub_self] at hi
    simp at hi
    subst hi
    exact ⟨g, c, by rw [hv, hl], ho⟩
  · have e1 : (ys ++ x' :: zs)[i]? = (ys ++ x :: zs)[i]? := by
      rw [List.getElem?_append_right (Nat.le_of_lt hgt), List.getElem?_append_right (Nat.le_of_lt hgt)]
      obtain ⟨j, hj⟩ : ∃ j, i - ys.length = j + 1 := ⟨i - ys.length - 1, by omega⟩
      rw [hj, List.getElem?_cons_succ, List.getElem?_cons_succ]
    rw [e1] at hi
    obtain ⟨g1, c1, h1, h2⟩ := h.2 i xs hi
    have hne := hb.2 ys.length i g _ _ g1 _ _ hgt hv h1
    obtain ⟨_, cur, hc⟩ := own_block h2
    exact ⟨g1, c1, h1, own_of_block h2 (hg.block g1 (Array.getElem?_eq_some_iff.1 hc).1 (fun e => by have := Option.some.inj e; omega))⟩

set_option maxHeartbeats 4000000 in
theorem eqIntSS_same (a1 a2 : Option Addr) (n c1 c2 B1 B2 B3 B4 : Nat) (vs us : List Value) (ts : List (List Int)) (w : World) (h1 : w.ownsRow B1 22 1 (.slice a1 n c1) n vs) (r1 : RowsI B2 w vs ts)
    (h2 : w.ownsRow B3 22 1 (.slice a2 n c2) n us) (r2 : RowsI B4 w us ts) (hn : n = ts.length) (hn3 : n ≤ 3000) (hv : ∀ t ∈ ts, t.length ≤ 60) :
    Calls Try.prog 31 #[.slice a1 n c1, .slice a2 n c2] w fun e w' => e = .returned (.bool true) ∧ Below w.heap.size w w' := by
  have H1 := Lib.hid h1
  have H2 := Lib.hid h2
  have R1 := Lib.hid r1
  have R2 := Lib.hid r2
  have HN := Lib.hid hn
  have HV := Lib.hid hv
  clear h1 h2 r1 r2 hn hv
  go_enter Try.func31, Try.ntmps31
  go_wp2_with fail
  go_loopw [5] (fun i wr => ∃ (k : Nat), k ≤ n ∧ i = .int .i64 k ∧ Below w.heap.size w wr) (fun i _ => n - (intOf i).toNat)
  case atStart => exact ⟨0, Nat.zero_le _, rfl, Below.refl _ _⟩
  case round =>
    obtain ⟨k, hk, rfl, hbel⟩ := hrel
    by_cases hlt : k < n
    · have hkt : k < ts.length := by rw [← HN.out]; exact hlt
      obtain ⟨t, ht⟩ : ∃ t, ts[k]? = some t := ⟨ts[k], List.getElem?_eq_getElem hkt⟩
      have hl60 := HV.out t (List.mem_of_getElem? ht)
      obtain ⟨g1, p1, q1, rfl, hg1, hc1, _, ho1⟩ := row_pickI (ownsRow_below' H1.out hbel) (R1.out.below hbel) HN.out ht
      obtain ⟨g2, p2, q2, rfl, hg2, hc2, _, ho2⟩ := row_pickI (ownsRow_below' H2.out hbel) (R2.out.below hbel) HN.out ht
      have hs1 := Sl.of_own ho1
      have hs2 := Sl.of_own ho2
      have hd0 : Below wr.heap.size wr wr.drew := (Below.refl _ _).drew
      have ks := Lib.hid (eqIntS_any (some ⟨p1, 0, none⟩) (some ⟨p2, 0, none⟩) t.length q1 t.length q2 t t wr.drew (by omega) (hs1.below hd0) (hs2.below hd0))
      rw [eqB_refl] at ks
      have Hbel := Lib.hid hbel
      clear ht hkt hl60 hbel hs1 hs2 ho1 ho2
      go_wp2_with fail
      go_region_held3 (fun w' => w'.cell? ⟨g1, k, none⟩ = some (.slice (some ⟨p1, 0, none⟩) t.length q1) ∧ w'.cell? ⟨g2, k, none⟩ = some (.slice (some ⟨p2, 0, none⟩) t.length q2)) (first | go_keep | exact ⟨kS0, kS1⟩)
        ((first
          | (go_at_call 17; (with_reducible refine (ks.out).mono ?_); rintro ee w2 ⟨rfl, hb2⟩; have hb2' : Below wr.heap.size wr w2 := hd0.trans hb2; have kS0 := (hb2'.cell (p := ⟨g1, k, none⟩) hg1).trans hc1; have kS1 := (hb2'.cell (p := ⟨g2, k, none⟩) hg2).trans hc2)
          | fail))
      have HbA := Lib.hid (Hbel.out.trans (hb2'.mono Hbel.out.size))
      clear hb2 hb2' kS0 kS1
      go_wp2_with fail
      go_roundw
      case rel => exact ⟨k + 1, by omega, by go_num, HbA.out⟩
      case measure => simp [intOf]; omega
    · obtain rfl : k = n := by omega
      go_wp2_with fail
      go_ret
      exact ⟨rfl, hbel⟩

set_option maxHeartbeats 4000000 in
theorem heldIntSS_any (a1 : Option Addr) (n c1 B1 B2 : Nat) (vs : List Value) (ts : List (List Int)) (k0 : Int) (w : World) (h1 : w.ownsRow B1 22 1 (.slice a1 n c1) n vs) (r1 : RowsI B2 w vs (markSS k0 ts)) (hn : n = ts.length) (hn3 : n ≤ 3000) (hv : ∀ t ∈ ts, t.length ≤ 60) (hk0 : 0 ≤ k0) (hk1 : k0 ≤ 1000) :
    Calls Try.prog 33 #[.slice a1 n c1, .int .i64 k0] w fun e w' => e = .returned (.int .i64 (k0 + tot ts)) ∧ Below w.heap.size w w' := by
  have H1 := Lib.hid h1
  have R1 := Lib.hid r1
  have HN := Lib.hid hn
  have HV := Lib.hid hv
  clear h1 r1 hn hv
  go_enter Try.func33, Try.ntmps33
  go_wp2_with fail
  go_loopw [1, 5] (fun j i wr => ∃ (k : Nat), k ≤ n ∧ j = .int .i64 (k0 + tot (ts.take k)) ∧ i = .int .i64 k ∧ Below w.heap.size w wr) (fun _ i _ => n - (intOf i).toNat)
  case atStart => exact ⟨0, Nat.zero_le _, by simp [tot], rfl, Below.refl _ _⟩
  case round =>
    obtain ⟨k, hk, rfl, rfl, hbel⟩ := hrel
    have htl := tot_le (l := ts.take k) (fun x hx => HV.out x (List.mem_of_mem_take hx))
    have htk : (ts.take k).length ≤ k := by rw [List.length_take]; omega
    obtain ⟨m, hm⟩ : ∃ m, m = tot (ts.take k) := ⟨_, rfl⟩
    rw [← hm] at htl ⊢
    have hmb : m ≤ 180000 := by omega
    have Hm := Lib.hid hm
    clear hm htl htk
    by_cases hlt : k < n
    · have hkt : k < ts.length := by rw [← HN.out]; exact hlt
      obtain ⟨t, ht'⟩ : ∃ t, t = ts[k] := ⟨_, rfl⟩
      have ht : ts[k]? = some t := by rw [ht']; exact List.getElem?_eq_getElem hkt
      have hl60 := HV.out t (List.mem_of_getElem? ht)
      have htk1 : ts.take (k + 1) = ts.take k ++ [t] := by rw [ht', List.take_succ_eq_append_getElem hkt]
      have hmk := markSS_get k0 ht
      rw [← Hm.out] at hmk
      obtain ⟨g1, p1, q1, rfl, hg1, hc1, _, ho1⟩ := row_pickI (ownsRow_below' H1.out hbel) (R1.out.below hbel) (by rw [markSS_len]; exact HN.out) hmk
      rw [marks_len] at hc1 ho1
      obtain ⟨tl, htl⟩ : ∃ tl, tl = t.length := ⟨_, rfl⟩
      rw [← htl] at hc1 ho1 hl60
      have Htot := Lib.hid (show tot (ts.take (k + 1)) = m + tl by rw [htk1, tot_snoc, ← Hm.out, htl])
      have ks := Lib.hid (heldIntS_any (some ⟨p1, 0, none⟩) tl q1 (k0 + m) wr (by omega) (by omega) (by omega) (Sl.of_own ho1))
      have Hbel := Lib.hid hbel
      clear ht ht' hkt htk1 hmk htl hbel ho1
      have hge : ¬ ((k0 + m + tl : Int) < 0) := by omega
      go_wp2_with fail
      refine (ks.out).mono ?_
      rintro ee w2 ⟨rfl, hb2⟩
      have HbA := Lib.hid (Hbel.out.trans (hb2.mono Hbel.out.size))
      clear hb2
      go_wp2_with fail
      go_roundw
      case rel => exact ⟨k + 1, by omega, by rw [Htot.out]; simp [Int.add_assoc], by go_num, HbA.out⟩
      case measure => simp [intOf]; omega
    · obtain rfl : k = n := by omega
      have Htot := Lib.hid (show m = tot ts by rw [Hm.out, HN.out, List.take_length])
      go_wp2_with fail
      go_ret
      exact ⟨by rw [Htot.out]; rfl, hbel⟩

set_option maxHeartbeats 4000000 in
theorem markIntSS_any (a1 : Option Addr) (n c1 B1 B U : Nat) (vs : List Value) (ts : List (List Int)) (k0 : Int) (w : World) (h1 : w.ownsRow B1 22 1 (.slice a1 n c1) n vs) (r1 : RowsI B w vs ts) (hbk : Blocks U vs) (hn : n = ts.length) (hn3 : n ≤ 3000) (hv : ∀ t ∈ ts, t.length ≤ 60) (hk0 : 0 ≤ k0) (hk1 : k0 ≤ 1000) :
    Calls Try.prog 32 #[.slice a1 n c1, .int .i64 k0] w fun e w' => e = .returned (.int .i64 (k0 + tot ts)) ∧ w'.ownsRow B1 22 1 (.slice a1 n c1) n vs ∧ RowsI B w' vs (markSS k0 ts) ∧ Below B w w' := by
  have H1 := Lib.hid h1
  have R1 := Lib.hid r1
  have HN := Lib.hid hn
  have HV := Lib.hid hv
  have HB := Lib.hid hbk
  clear h1 r1 hn hv hbk
  go_enter Try.func32, Try.ntmps32
  go_wp2_with fail
  go_loopw [1, 5] (fun j i wr => ∃ (k : Nat), k ≤ n ∧ j = .int .i64 (k0 + tot (ts.take k)) ∧ i = .int .i64 k ∧ wr.ownsRow B1 22 1 (.slice a1 n c1) n vs ∧ RowsI B wr vs (markSS k0 (ts.take k) ++ ts.drop k) ∧ Below B w wr) (fun _ i _ => n - (intOf i).toNat)
  case atStart => exact ⟨0, Nat.zero_le _, by simp [tot], rfl, H1.out, by simpa [markSS] using R1.out, Below.refl _ _⟩
  case round =>
    obtain ⟨k, hk, rfl, rfl, hown, hrow, hbel⟩ := hrel
    have htl := tot_le (l := ts.take k) (fun x hx => HV.out x (List.mem_of_mem_take hx))
    have htk : (ts.take k).length ≤ k := by rw [List.length_take]; omega
    obtain ⟨m, hm⟩ : ∃ m, m = tot (ts.take k) := ⟨_, rfl⟩
    rw [← hm] at htl ⊢
    have hmb : m ≤ 180000 := by omega
    have Hm := Lib.hid hm
    have Hrow := Lib.hid hrow
    have Hown := Lib.hid hown
    have Hbel := Lib.hid hbel
    clear hm htl htk hrow hown hbel
    by_cases hlt : k < n
    · have hkt : k < ts.length := by rw [← HN.out]; exact hlt
      obtain ⟨t, ht'⟩ : ∃ t, t = ts[k] := ⟨_, rfl⟩
      have ht : ts[k]? = some t := by rw [ht']; exact List.getElem?_eq_getElem hkt
      have hl60 := HV.out t (List.mem_of_getElem? ht)
      have htk1 : ts.take (k + 1) = ts.take k ++ [t] := by rw [ht', List.take_succ_eq_append_getElem hkt]
      have hdk : ts.drop k = t :: ts.drop (k + 1) := by rw [ht']; exact List.drop_eq_getElem_cons hkt
      have hrow := Hrow.out
      rw [hdk] at hrow
      have hyl : (markSS k0 (ts.take k)).length = k := by rw [markSS_len, List.length_take]; omega
      have hpk : (markSS k0 (ts.take k) ++ t :: ts.drop (k + 1))[k]? = some t := by
        rw [List.getElem?_append_right (by omega), hyl, Nat.sub_self]; rfl
      obtain ⟨g1, p1, q1, rfl, hg1, hc1, hv1, ho1⟩ := row_pickI Hown.out hrow (by rw [List.length_append, hyl, List.length_cons, List.length_drop, HN.out]; omega) hpk
      have HV1 := Lib.hid hv1
      have HRow := Lib.hid hrow
      have Hyl := Lib.hid hyl
      have Htk1 := Lib.hid htk1
      have hne : (some p1 : Option Nat) ≠ Value.ownBlock (.slice (some ⟨g1, 0, none⟩) n c1) := by
        intro e
        have e' : p1 = g1 := by simpa [Value.ownBlock] using e
        obtain ⟨_, cur, hc⟩ := own_block ho1
        obtain ⟨_, ⟨h, _⟩ | ⟨g', cap, cur', he, _, hc', _⟩⟩ := Hown.out
        · cases h
        · cases he
          rw [e'] at hc
          rw [hc] at hc'
          cases hc'
      have Hne := Lib.hid hne
      obtain ⟨tl, htl⟩ : ∃ tl, tl = t.length := ⟨_, rfl⟩
      rw [← htl] at hc1 ho1 hl60
      have Htl := Lib.hid htl
      have Htot := Lib.hid (show tot (ts.take (k + 1)) = m + tl by rw [htk1, tot_snoc, ← Hm.out, htl])
      have ks := Lib.hid (markIntS_any B (some ⟨p1, 0, none⟩) tl q1 t (k0 + m) wr (by omega) (by omega) (by omega) ho1)
      clear ht ht' hkt htk1 htl ho1 hdk hrow hyl hpk hv1 hne
      go_wp2_with fail
      refine (ks.out).mono ?_
      rintro ee w2 ⟨rfl, ho2, hb2, hg2⟩
      have hset := HRow.out.set (x' := marks (k0 + m) tl) HB.out (by rw [Hyl.out]; exact HV1.out) hg2 (by rw [marks_len, Htl.out]) (by rw [marks_len]; exact ho2)
      have hfin : RowsI B w2 vs (markSS k0 (ts.take (k + 1)) ++ ts.drop (k + 1)) := by
        rw [Htk1.out, markSS_snoc, ← Hm.out, ← Htl.out, List.append_assoc]
        exact hset
      have Hfin := Lib.hid hfin
      have Hown2 := Lib.hid (Hown.out.kept hg2 (.inr (fun e => Hne.out e.symm)))
      have HbA := Lib.hid (Hbel.out.trans hb2)
      clear hset hfin ho2 hb2 hg2
      go_wp2_with fail
      go_roundw
      case rel => exact ⟨k + 1, by omega, by rw [Htot.out]; simp [Int.add_assoc], by go_num, Hown2.out, Hfin.out, HbA.out⟩
      case measure => simp [intOf]; omega
    · obtain rfl : k = n := by omega
      have Htot := Lib.hid (show m = tot ts by rw [Hm.out, HN.out, List.take_length])
      have hfin : RowsI B wr vs (markSS k0 ts) := by
        have h := Hrow.out
        rw [HN.out, List.take_length, List.drop_length, List.append_nil] at h
        exact h
      have Hfin := Lib.hid hfin
      clear hfin
      go_wp2_with fail
      go_ret
      exact ⟨by rw [Htot.out]; rfl, Hown.out, Hfin.out, Hbel.out⟩
end Go.Proofs.Ytinbbeeplfdafaa
