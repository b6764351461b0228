/- Rows of exchanges: what they lead to, without memory; a clone of a row; one exchange with its error. -/
import Derived.Test.YtjkkopjmpmbapaaTrS
import Derived.Lib.SliceRun
namespace Go.Proofs.Ytjkkopjmpmbapaa
set_option maxRecDepth 100000
open Go.RowKit

/-- One exchange by a rule that is told by its index. -/
def stepR (ts : List Tr) (h : List Int) (k : Int) : Option (List Int) :=
  if 0 ≤ k then match ts[k.toNat]? with
    | some t => if canB h t then some (doR h t) else none
    | none => none
  else none
theorem stepR_neg {ts : List Tr} {h : List Int} {k : Int} (hk : k < 0) : stepR ts h k = none := by rw [stepR, if_neg (by omega)]
theorem stepR_far {ts : List Tr} {h : List Int} {k : Nat} (hk : ts.length ≤ k) : stepR ts h k = none := by
  rw [stepR, if_pos (by omega), Int.toNat_natCast, List.getElem?_eq_none hk]
theorem stepR_yes {ts : List Tr} {h : List Int} {k : Nat} {t : Tr} (ht : ts[k]? = some t) (hc : canB h t = true) : stepR ts h k = some (doR h t) := by
  rw [stepR, if_pos (by omega), Int.toNat_natCast, ht]
  show (if canB h t = true then some (doR h t) else none) = _
  rw [if_pos hc]
theorem stepR_no {ts : List Tr} {h : List Int} {k : Nat} {t : Tr} (ht : ts[k]? = some t) (hc : canB h t = false) : stepR ts h k = none := by
  rw [stepR, if_pos (by omega), Int.toNat_natCast, ht]
  show (if canB h t = true then some (doR h t) else none) = _
  rw [if_neg (by rw [hc]; decide)]
theorem stepR_ok {ts : List Tr} {h r : List Int} {k : Int} (hr : stepR ts h k = some r) : listB 40 r = true := by
  unfold stepR at hr
  split at hr
  · split at hr
    · rename_i t _
      rcases can_tf h t with hc | hc
      · rw [if_pos hc] at hr
        cases hr
        exact doR_valid hc
      · rw [if_neg (by rw [hc]; decide)] at hr
        cases hr
    · cases hr
  · cases hr

def runN (ts : List Tr) (h : List Int) (l : List Int) : Option (List Int) := l.foldl (fun o k => o.bind (fun h => stepR ts h k)) (some h)
theorem runN_snoc (ts : List Tr) (h : List Int) (l : List Int) (k : Int) : runN ts h (l ++ [k]) = (runN ts h l).bind (fun h => stepR ts h k) := by
  rw [runN, List.foldl_append]; rfl
theorem run_none (ts : List Tr) (l : List Int) : l.foldl (fun (o : Option (List Int)) k => o.bind (fun h => stepR ts h k)) none = none := by
  induction l with
  | nil => rfl
  | cons k l ih => exact ih
theorem runN_take {ts : List Tr} {h : List Int} {l : List Int} {j : Nat} (hj : j < l.length) : runN ts h (l.take (j + 1)) = (runN ts h (l.take j)).bind (fun h => stepR ts h (l.getD j 0)) := by
  rw [List.take_succ_eq_append_getElem hj, runN_snoc, show l.getD j 0 = l[j] by simp [List.getD, hj]]
theorem runN_fail {ts : List Tr} {h : List Int} {l : List Int} {j : Nat} (hj : runN ts h (l.take j) = none) : runN ts h l = none := by
  rw [← List.take_append_drop j l, runN, List.foldl_append]
  have e : (l.take j).foldl (fun (o : Option (List Int)) k => o.bind (fun h => stepR ts h k)) (some h) = none := hj
  rw [e]
  exact run_none ts _

def runB (h : List Int) (ts : List Tr) (l : List Int) : Bool := listB 40 h && (tradesB ts && (decide (l.length ≤ 99) && (runN ts h l).isSome))
def runR (h : List Int) (ts : List Tr) (l : List Int) : List Int := if runB h ts l then (runN ts h l).getD [] else []
theorem runR_no {h : List Int} {ts : List Tr} {l : List Int} (hb : runB h ts l = false) : runR h ts l = [] := by rw [runR, hb]; rfl
theorem runB_h {h : List Int} {ts : List Tr} {l : List Int} (k : listB 40 h = false) : runB h ts l = false := by rw [runB, k]; rfl
theorem runB_t {h : List Int} {ts : List Tr} {l : List Int} (k : tradesB ts = false) : runB h ts l = false := by rw [runB, k, Bool.false_and, Bool.and_false]
theorem runB_l {h : List Int} {ts : List Tr} {l : List Int} (k : ¬ l.length ≤ 99) : runB h ts l = false := by rw [runB, decide_eq_false k, Bool.false_and, Bool.and_false, Bool.and_false]
theorem runB_n {h : List Int} {ts : List Tr} {l : List Int} (k : runN ts h l = none) : runB h ts l = false := by rw [runB, k]; simp
theorem runB_yes {h r : List Int} {ts : List Tr} {l : List Int} (k1 : listB 40 h = true) (k2 : tradesB ts = true) (k3 : l.length ≤ 99) (k4 : runN ts h l = some r) : runB h ts l = true ∧ runR h ts l = r := by
  have hb : runB h ts l = true := by rw [runB, k1, k2, decide_eq_true k3, k4]; rfl
  exact ⟨hb, by rw [runR, if_pos hb, k4]; rfl⟩
theorem runN_ok {h r : List Int} {ts : List Tr} {l : List Int} (hh : listB 40 h = true) (hr : runN ts h l = some r) : listB 40 r = true := by
  rcases List.eq_nil_or_concat l with rfl | ⟨l', k, rfl⟩
  · cases hr; exact hh
  · rw [List.concat_eq_append, runN_snoc] at hr
    cases hx : runN ts h l' with
    | none => rw [hx] at hr; cases hr
    | some x => rw [hx] at hr; exact stepR_ok hr
theorem runR_le {h : List Int} {ts : List Tr} {l : List Int} : (runR h ts l).length ≤ 3 := by
  unfold runR
  split
  · rename_i hb
    simp only [runB, Bool.and_eq_true, decide_eq_true_eq] at hb
    obtain ⟨h1, _, _, h4⟩ := hb
    obtain ⟨r, hr⟩ := Option.isSome_iff_exists.1 h4
    rw [hr]
    show r.length ≤ 3
    rw [(listB_true.1 (runN_ok h1 hr)).1]
    exact Nat.le_refl _
  · exact Nat.zero_le _

set_option maxHeartbeats 1000000 in
/-- A clone of a row that is there. -/
theorem clone3_any (ao : Option Addr) (n c : Nat) (xs : List Int) (w : World) (hp : 0 < n) (hb : n ≤ 10000) (h : Sl w ao n c xs) :
    Calls Try.prog 60 #[.slice ao n c] w fun e w' => ∃ g' c', e = .returned (.slice (some ⟨g', 0, none⟩) n c') ∧ w'.ownsRow w.heap.size 3 1 (.slice (some ⟨g', 0, none⟩) n c') n (ints xs) ∧ Below w.heap.size w w' := by
  obtain ⟨i0, hi, hz0, hz1, hz2⟩ := info_parts info_int
  obtain ⟨h1, h2, h3, h4⟩ := h
  obtain ⟨b, off, rfl, hat⟩ := h4 hp
  have HL := Lib.hid (show (ints xs).length = n * 1 by rw [ints_len, h1]; omega)
  have HN := Lib.hid (show ∀ j u, (ints xs)[j]? = some u → (w.alloc (.cells #[] 3)).cell? ((⟨b, off, none⟩ : Addr).add j) = some u by
    intro j u hj
    have hjl := (List.getElem?_eq_some_iff.1 hj).1
    rw [ints_len] at hjl
    rw [ints_get xs j hjl] at hj
    cases hj
    rw [Addr.add_lit, ((Below.refl w.heap.size w).alloc (Nat.le_refl _) (.cells #[] 3)).cell (hat.lt (by intro h; rw [h] at hjl; simp at hjl))]
    exact hat j hjl)
  have HO := Lib.hid (World.ownsRow_lit (base := w.heap.size) (e := 3) (size := 1) w #[] 0 (Nat.le_refl _) (by simp [maxLen]) rfl)
  have hsn := fun w n c => Lib.run_eql_slice_nil (P := Try.prog) w 22 3 (some ⟨b, off, none⟩) n c 0 0 Try.underlying22
  clear h1 h4 hat
  go_enter Try.func60, Try.ntmps60
  go_wp2_with (first
    | (at_builtin; refine wpList_append_own _ rfl (.tmp 5) (.tmp 6) 22 rfl w.heap.size 3 i0 (.int .i64 0) 1 8 Try.underlying22 hi hz0 hz1 hz2 rfl (by decide) _ 0 [] rfl HO.out ⟨b, off, none⟩ n c (ints xs) rfl HL.out HN.out (ints_oneCell _ xs) (by unfold maxLen; omega) (by omega) (by simp) ?_; intro v2 w2 ho2 hg2 _))
  obtain ⟨g2, c2, rfl⟩ := Joins.ownsRow_form ho2 (by omega)
  have hfin : w2.ownsRow w.heap.size 3 1 (.slice (some ⟨g2, 0, none⟩) (0 + n) c2) n (ints xs) ∧ Below w.heap.size w w2 := by
    have e1 : 0 + n = n := by omega
    have h9 := ho2
    rw [e1] at h9 ⊢
    exact ⟨by simpa using h9, ((Below.refl w.heap.size w).alloc (Nat.le_refl _) _).grown hg2 (by simp) (fun r e => (HO.out.lt r e).1)⟩
  have Hfin := Lib.hid hfin
  clear ho2 hg2 hfin
  go_wp2_with fail
  go_ret
  have h9 := Hfin.out
  have e1 : 0 + n = n := by omega
  rw [e1] at h9 ⊢
  exact ⟨g2, c2, rfl, h9.1, h9.2⟩

/-- The answer of exchange. -/
def ExPost (w : World) (r : Option (List Int)) (k : Int) (e : Ending) (w' : World) : Prop :=
  (∃ a c xs, r = some xs ∧ e = .returned (.tuple #[.slice a 3 c, .nilIface]) ∧ w'.ownsRow w.heap.size 3 1 (.slice a 3 c) 3 (ints xs) ∧ Below w.heap.size w w') ∨
  (r = none ∧ e = .returned (.tuple #[.slice none 0 0, .iface 89 (.agg #[.int .i64 k])]) ∧ Below w.heap.size w w')

set_option maxHeartbeats 2000000 in
theorem exchange_any (a0 : Option Addr) (n0 c0 : Nat) (h : List Int) (ao : Option Addr) (n c : Nat) (ts : List Tr) (k : Int) (w : World) (hb0 : n0 ≤ 1048576) (hb : n ≤ 1048576) (hbl : ∀ t ∈ ts, t.take.length ≤ 1048576 ∧ t.give.length ≤ 1048576) (hk0 : -9223372036854775808 ≤ k) (hk1 : k ≤ 9223372036854775807) (h0 : Sl w a0 n0 c0 h) (hS : SlT w ao n c ts) :
    Calls Try.prog 61 #[.slice a0 n0 c0, .slice ao n c, .int .i64 k] w (ExPost w (stepR ts h k) k) := by
  have Hl := hS.1
  by_cases hkn : 0 ≤ k
  · obtain ⟨j, rfl⟩ : ∃ j : Nat, k = j := ⟨k.toNat, by omega⟩
    by_cases hj : j < n
    · obtain ⟨t, ht⟩ : ∃ t, ts[j]? = some t := ⟨ts[j]'(by omega), List.getElem?_eq_getElem _⟩
      obtain ⟨b, off, rfl, hat⟩ := hS.2.2.2 (by omega)
      obtain ⟨a1, n1, c1, a2, n2, c2, e1, e2, s1, s2⟩ := hat j t ht
      have hm := hbl t (List.mem_of_getElem? ht)
      have k1 := Lib.hid (impl_TradeDo a0 a1 a2 n0 c0 n1 c1 n2 c2 h t w (by omega) (by rw [← s1.1]; omega) (by rw [← s2.1]; omega) h0 s1 s2)
      have hjn : (j : Int) < n := by omega
      rcases can_tf h t with hc | hc
      · have hr := stepR_yes ht hc
        have hl3 := doR_len hc
        obtain ⟨r, hrr⟩ : ∃ r, r = doR h t := ⟨_, rfl⟩
        unfold TdPost at k1
        rw [← hrr] at k1 hr hl3
        rw [hc, hl3] at k1
        rw [hr]
        clear hat hm s1 s2 ht h0 hS hbl hr hrr hl3 hc Hl
        go_enter Try.func61, Try.ntmps61
        go_wp2_with fail
        refine (k1.out).mono ?_
        rintro ee w1 ⟨aR, cR, rfl, hoR, hb1⟩
        have HO := Lib.hid hoR
        have Hb1 := Lib.hid hb1
        clear hoR hb1
        go_wp2_with fail
        go_ret2
        exact .inl ⟨aR, cR, r, rfl, rfl, HO.out, Hb1.out⟩
      · have hr := stepR_no ht hc
        unfold TdPost at k1
        rw [hc, doR_no hc] at k1
        rw [hr]
        clear hat hm s1 s2 ht h0 hS hbl hr hc Hl
        go_enter Try.func61, Try.ntmps61
        go_wp2_with fail
        refine (k1.out).mono ?_
        rintro ee w1 ⟨aR, cR, rfl, hoR, hb1⟩
        have Hb1 := Lib.hid hb1
        clear hoR hb1
        go_wp2_with fail
        go_ret2
        exact .inr ⟨rfl, rfl, Hb1.out⟩
    · have hr : stepR ts h j = none := stepR_far (by omega)
      rw [hr]
      have hjn : ¬ ((j : Int) < n) := by omega
      clear h0 hS hbl hr Hl
      go_enter Try.func61, Try.ntmps61
      go_wp2_with fail
      go_ret2
      exact .inr ⟨rfl, rfl, Below.refl _ _⟩
  · have hr : stepR ts h k = none := stepR_neg (by omega)
    rw [hr]
    clear h0 hS hbl hr Hl
    go_enter Try.func61, Try.ntmps61
    go_wp2_with fail
    go_ret2
    exact .inr ⟨rfl, rfl, Below.refl _ _⟩

end Go.Proofs.Ytjkkopjmpmbapaa
