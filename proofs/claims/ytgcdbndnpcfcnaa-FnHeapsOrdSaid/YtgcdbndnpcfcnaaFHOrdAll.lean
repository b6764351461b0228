/- FHOrdAll: one text out of TrRL, TrQ, TrO, TrOJ, TrOS, TrOX, NatM, HOrdM, DrawL, DrawH, LFnHeapsOrd. -/
import Derived.Test.YtgcdbndnpcfcnaaTrT
import Derived.Deep.RegionHeld3
import Derived.Test.YtgcdbndnpcfcnaaNatJ
import Derived.Test.YtgcdbndnpcfcnaaNatS
import Derived.Test.YtgcdbndnpcfcnaaNat
import Derived.Test.YtgcdbndnpcfcnaaAddM
import Derived.Test.YtgcdbndnpcfcnaaDraw1
import Derived.Test.YtgcdbndnpcfcnaaSem
import Derived.Deep.DeepCutAuto
import Derived.Test.YtgcdbndnpcfcnaaPower
import Derived.Test.YtgcdbndnpcfcnaaRawKit
import Derived.Deep.CutBlock
import Derived.Deep.LoopGhost
/- TrRL -/
/- What the exact laws of several slices share. -/
namespace Go.Proofs.Ytgcdbndnpcfcnaa
set_option maxRecDepth 100000
open Go.RowKit

theorem szTs_bl {ts : List Tr} {m : Nat} (h : szTs ts ≤ m) : ∀ t ∈ ts, t.take.length ≤ m ∧ t.give.length ≤ m := fun _ ht => by have := szTs_mem ht; omega

theorem TsCopy.sl {B U : Nat} {w : World} {g n : Nat} {ts : List Tr} (h : TsCopy B U w (.slice (some ⟨g, 0, none⟩) n n) n ts) : SlT w (some ⟨g, 0, none⟩) n n ts := by
  obtain ⟨g', e, hs⟩ := h.parts
  cases e
  exact hs

end Go.Proofs.Ytgcdbndnpcfcnaa

/- TrQ -/
/- The laws' own helpers for slices of rows: sizes, copies, comparisons, marks. -/
namespace Go.Proofs.Ytgcdbndnpcfcnaa
set_option maxRecDepth 100000
open Go.RowKit

/-- A slice of rows in memory. -/
def SlR (w : World) (ao : Option Addr) (n c : Nat) (ts : List (List Int)) : Prop :=
  ts.length = n ∧ n ≤ c ∧ c ≤ maxLen ∧ (0 < n → ∃ b off, ao = some ⟨b, off, none⟩ ∧ ∀ k t, ts[k]? = some t → ∃ a1 n1 c1, w.cell? ⟨b, off + k, none⟩ = some (.slice a1 n1 c1) ∧ Sl w a1 n1 c1 t)
theorem SlR.below {w w' : World} {ao : Option Addr} {n c : Nat} {ts : List (List Int)} (h : SlR w ao n c ts) (hb : Below w.heap.size w w') : SlR w' ao n c ts := by
  obtain ⟨h1, h2, h3, h4⟩ := h
  refine ⟨h1, h2, h3, fun hp => ?_⟩
  obtain ⟨b, off, rfl, hat⟩ := h4 hp
  refine ⟨b, off, rfl, fun k t hk => ?_⟩
  obtain ⟨a1, n1, c1, e1, s1⟩ := hat k t hk
  exact ⟨a1, n1, c1, (hb.cell (cell_in e1)).trans e1, s1.below hb⟩

def szRs : List (List Int) → Nat
  | [] => 0
  | t :: r => t.length + szRs r
theorem szRs_snoc (l : List (List Int)) (t : List Int) : szRs (l ++ [t]) = szRs l + t.length := by
  induction l with
  | nil => simp [szRs]
  | cons y l ih => simp only [List.cons_append, szRs, ih]; omega
theorem szRs_take {l : List (List Int)} {k : Nat} {t : List Int} (h : l[k]? = some t) : szRs (l.take (k + 1)) = szRs (l.take k) + t.length := by
  obtain ⟨hk, he⟩ := List.getElem?_eq_some_iff.1 h
  rw [List.take_succ_eq_append_getElem hk, he, szRs_snoc]
theorem szRs_le (l : List (List Int)) (k : Nat) : szRs (l.take k) ≤ szRs l := by
  induction l generalizing k with
  | nil => simp [szRs]
  | cons y l ih =>
    cases k with
    | zero => simp [szRs]
    | succ k => simp only [List.take_succ_cons, szRs]; have := ih k; omega
theorem szRs_bl {ts : List (List Int)} {m : Nat} (h : szRs ts ≤ m) : ∀ t ∈ ts, t.length ≤ m := by
  intro t ht
  obtain ⟨k, hk⟩ := List.mem_iff_getElem?.1 ht
  have h1 := szRs_take hk
  have h2 := szRs_le ts (k + 1)
  omega


/-- Rows that were copied so far: they lie in blocks of their own, one behind the other, behind the slice's own block g. -/
def RsP (w : World) (B U g k : Nat) (ts : List (List Int)) (cs : List Value) (bl : Nat → Nat) : Prop :=
  (∀ j t, j < k → ts[j]? = some t → cs[j]? = some (.slice (some ⟨bl j, 0, none⟩) t.length t.length) ∧ w.ownsRow B 3 1 (.slice (some ⟨bl j, 0, none⟩) t.length t.length) t.length (ints t)) ∧
    (∀ i j, i < j → j < k → bl i < bl j) ∧ (∀ i, i < k → g < bl i ∧ bl i < U)
theorem RsP.below {w w' : World} {B U g k : Nat} {ts : List (List Int)} {cs : List Value} {bl : Nat → Nat} (h : RsP w B U g k ts cs bl) (hb : Below w.heap.size w w') : RsP w' B U g k ts cs bl :=
  ⟨fun j t hj ht => ⟨(h.1 j t hj ht).1, ownsRow_below' (h.1 j t hj ht).2 hb⟩, h.2.1, h.2.2⟩

/-- A slice of rows that the call made. -/
def RsCopy (B U : Nat) (w : World) (v : Value) (n : Nat) (ts : List (List Int)) : Prop :=
  ∃ g cs bl, v = .slice (some ⟨g, 0, none⟩) n n ∧ n = ts.length ∧ w.ownsRow B 23 1 (.slice (some ⟨g, 0, none⟩) n n) n cs ∧ RsP w B U g n ts cs bl
theorem RsCopy.below {B U : Nat} {w w' : World} {v : Value} {n : Nat} {ts : List (List Int)} (h : RsCopy B U w v n ts) (hb : Below w.heap.size w w') : RsCopy B U w' v n ts := by
  obtain ⟨g, cs, bl, h1, h2, h3, h4⟩ := h
  exact ⟨g, cs, bl, h1, h2, ownsRow_below' h3 hb, h4.below hb⟩
theorem RsCopy.parts {B U : Nat} {w : World} {v : Value} {n : Nat} {ts : List (List Int)} (h : RsCopy B U w v n ts) : ∃ g, v = .slice (some ⟨g, 0, none⟩) n n ∧ SlR w (some ⟨g, 0, none⟩) n n ts := by
  obtain ⟨g, cs, bl, rfl, hn, h3, h4⟩ := h
  refine ⟨g, rfl, hn.symm, Nat.le_refl _, ?_, fun _ => ⟨g, 0, rfl, fun k t hk => ?_⟩⟩
  · rcases h3.2 with ⟨h, _⟩ | ⟨g', cap, cur, h, _, _, _, hm, _⟩
    · cases h
    · cases h
      exact hm
  · have hkn : k < n := by rw [hn]; exact (List.getElem?_eq_some_iff.1 hk).1
    obtain ⟨e1, o1⟩ := h4.1 k t hkn hk
    refine ⟨_, _, _, ?_, Sl.of_own o1⟩
    rw [Nat.zero_add, h3.cellAt _ (by omega)]; exact e1
theorem RsCopy.sl {B U : Nat} {w : World} {g n : Nat} {ts : List (List Int)} (h : RsCopy B U w (.slice (some ⟨g, 0, none⟩) n n) n ts) : SlR w (some ⟨g, 0, none⟩) n n ts := by
  obtain ⟨g', e, hs⟩ := h.parts
  cases e
  exact hs

/-- One more block. -/
def upR (bl : Nat → Nat) (k g1 i : Nat) : Nat := if i = k then g1 else bl i
theorem upR_0 (bl : Nat → Nat) (k g1 : Nat) : upR bl k g1 k = g1 := if_pos rfl
theorem upR_o (bl : Nat → Nat) (k g1 : Nat) {i : Nat} (h1 : i ≠ k) : upR bl k g1 i = bl i := by rw [upR, if_neg h1]

theorem RsP.step {w w2 : World} {B g k n n1 : Nat} {ts : List (List Int)} {cs : List Value} {bl : Nat → Nat} {t : List Int} {g1 : Nat} (h : RsP w B w.heap.size g k ts cs bl) (hb : Below w.heap.size w w2) (ht : ts[k]? = some t) (hcs : cs.length = n) (hk : k < n)
    (hn1 : t.length = n1) (hg : g < w.heap.size) (hB : B ≤ w.heap.size) (o1 : w2.ownsRow w.heap.size 3 1 (.slice (some ⟨g1, 0, none⟩) n1 n1) n1 (ints t)) (u1 : Value) :
    ∃ bl', RsP (w2.setCell ⟨g, k, none⟩ u1) B (w2.setCell ⟨g, k, none⟩ u1).heap.size g (k + 1) ts (cs.set k (.slice (some ⟨g1, 0, none⟩) n1 n1)) bl' := by
  subst hn1
  have l1 := o1.lt g1 rfl
  have hsz : (w2.setCell ⟨g, k, none⟩ u1).heap.size = w2.heap.size := by simp [World.setCell]
  refine ⟨upR bl k g1, ?_, ?_, ?_⟩
  · intro j t' hj ht'
    by_cases hjk : j = k
    · subst hjk
      cases ht.symm.trans ht'
      rw [upR_0]
      exact ⟨by rw [List.getElem?_set_self (by omega)], Joins.ownsRow_le (ownsRow_setCell_other o1 (a := ⟨g, j, none⟩) (by simp [Value.ownBlock]; omega) u1) hB⟩
    · obtain ⟨e1, q1⟩ := h.1 j t' (by omega) ht'
      rw [upR_o bl k g1 (i := j) (by omega)]
      have p1 := (h.2.2 j (by omega)).1
      exact ⟨by rw [List.getElem?_set_ne (by omega)]; exact e1, ownsRow_setCell_other (ownsRow_below' q1 hb) (a := ⟨g, k, none⟩) (by simp [Value.ownBlock]; omega) u1⟩
  · intro i j hij hj
    by_cases j1 : j = k
    · have := (h.2.2 i (by omega)).2
      rw [j1, upR_0, upR_o bl k g1 (i := i) (by omega)]
      omega
    · rw [upR_o bl k g1 (i := i) (by omega), upR_o bl k g1 (i := j) j1]
      exact h.2.1 i j hij (by omega)
  · intro i hi
    rw [hsz]
    by_cases i1 : i = k
    · rw [i1, upR_0]; omega
    · rw [upR_o bl k g1 i1]
      have := h.2.2 i (by omega)
      have := hb.size
      omega



theorem RsP.lt {w : World} {B U g n : Nat} {ts : List (List Int)} {cs : List Value} {bl : Nat → Nat} (h : RsP w B U g n ts cs bl) (hl : n = ts.length) {i : Nat} (hi : i < n) : bl i < w.heap.size := by
  obtain ⟨t, ht⟩ : ∃ t, ts[i]? = some t := ⟨ts[i]'(by omega), List.getElem?_eq_getElem _⟩
  exact ((h.1 i t hi ht).2.lt _ rfl).2
theorem RsCopy.mid {B U B0 U0 : Nat} {w w' : World} {v : Value} {n : Nat} {ts : List (List Int)} (h : RsCopy B U w v n ts) (hm : Mid B0 U0 w w') (hU : U0 ≤ B) : RsCopy B U w' v n ts := by
  obtain ⟨g, cs, bl, h1, h2, h3, h4, h5⟩ := h
  exact ⟨g, cs, bl, h1, h2, hm.own h3 hU, fun j t hj ht => ⟨(h4 j t hj ht).1, hm.own (h4 j t hj ht).2 hU⟩, h5⟩


end Go.Proofs.Ytgcdbndnpcfcnaa

/- TrO -/
/- The ordinal of heaps: without memory; the program's and the model's. -/
namespace Go.Proofs.Ytgcdbndnpcfcnaa
set_option maxRecDepth 100000
open Go.RowKit

noncomputable def addO (s : Option (List Int)) (x : List Int) : Option (List Int) := s.bind fun y => if T.natOk y x = true then some (T.natRow y x) else none
noncomputable def ordN (l : List (List Int)) : Option (List Int) := l.foldl addO (some [0])
theorem addO_none (l : List (List Int)) : l.foldl addO none = none := by
  induction l with
  | nil => rfl
  | cons x l ih => exact ih
theorem ordN_app (l r : List (List Int)) : ordN (l ++ r) = r.foldl addO (ordN l) := by rw [ordN, List.foldl_append]; rfl
theorem ordN_snoc (l : List (List Int)) (x : List Int) : ordN (l ++ [x]) = addO (ordN l) x := by rw [ordN_app]; rfl
theorem ordN_fail {l r : List (List Int)} (h : ordN l = none) : ordN (l ++ r) = none := by rw [ordN_app, h]; exact addO_none r
theorem addO_yes {y x : List Int} (h : T.natOk y x = true) : addO (some y) x = some (T.natRow y x) := by show (if T.natOk y x = true then _ else _) = _; rw [if_pos h]
theorem addO_no {y x : List Int} (h : T.natOk y x = false) : addO (some y) x = none := by show (if T.natOk y x = true then _ else _) = _; rw [if_neg (by rw [h]; decide)]

/-- The ordinals of all things of the first k heaps. -/
def stackO (h : List Int) (os : List (List Int)) : Nat → List (List Int)
  | 0 => []
  | k + 1 => stackO h os k ++ List.replicate (h.getD k 0).toNat (os.getD k [])
theorem stackO_pre (h : List Int) (os : List (List Int)) {k j : Nat} (hk : k < 3) (hj : (j : Int) ≤ h.getD k 0) : ∃ r, stackO h os 3 = (stackO h os k ++ List.replicate j (os.getD k [])) ++ r := by
  have hr : List.replicate (h.getD k 0).toNat (os.getD k []) = List.replicate j (os.getD k []) ++ List.replicate ((h.getD k 0).toNat - j) (os.getD k []) := by
    rw [List.replicate_append_replicate]; congr 1; omega
  have h1 : stackO h os (k + 1) = (stackO h os k ++ List.replicate j (os.getD k [])) ++ List.replicate ((h.getD k 0).toNat - j) (os.getD k []) := by
    rw [stackO, hr, List.append_assoc]
  have : k = 0 ∨ k = 1 ∨ k = 2 := by omega
  rcases this with rfl | rfl | rfl
  · exact ⟨_, by show (stackO h os (0 + 1) ++ _) ++ _ = _; rw [h1, List.append_assoc, List.append_assoc]⟩
  · exact ⟨_, by show stackO h os (1 + 1) ++ _ = _; rw [h1, List.append_assoc]⟩
  · exact ⟨_, h1⟩

noncomputable def worthB (os : List (List Int)) : Bool := decide (os.length = 3) && os.all T.vldB
theorem worthB_true {os : List (List Int)} : worthB os = true ↔ os.length = 3 ∧ ∀ x ∈ os, T.vldB x = true := by rw [worthB, Bool.and_eq_true, decide_eq_true_eq, List.all_eq_true]
theorem worthB_len {os : List (List Int)} (h : os.length ≠ 3) : worthB os = false := by rw [worthB, decide_eq_false h]; rfl
theorem worthB_at {os : List (List Int)} {k : Nat} {x : List Int} (h : os[k]? = some x) (hx : T.vldB x = false) : worthB os = false := by
  rw [Bool.eq_false_iff]
  intro h1
  have := (worthB_true.1 h1).2 x (List.mem_of_getElem? h)
  rw [hx] at this
  cases this
theorem worthB_all {os : List (List Int)} (hl : os.length = 3) (h : ∀ (k : Nat) (x : List Int), os[k]? = some x → T.vldB x = true) : worthB os = true := by
  rw [worthB_true]
  refine ⟨hl, fun x hx => ?_⟩
  obtain ⟨k, hk⟩ := List.mem_iff_getElem?.1 hx
  exact h k x hk
theorem worth_tf (os : List (List Int)) : worthB os = true ∨ worthB os = false := by cases worthB os <;> simp

noncomputable def hordB (h : List Int) (os : List (List Int)) : Bool := listB 40 h && (worthB os && (ordN (stackO h os 3)).isSome)
noncomputable def hordR (h : List Int) (os : List (List Int)) : List Int := if hordB h os = true then (ordN (stackO h os 3)).getD [] else []
theorem hordR_no {h : List Int} {os : List (List Int)} (hb : hordB h os = false) : hordR h os = [] := by rw [hordR, if_neg (by rw [hb]; decide)]
theorem hordB_h {h : List Int} {os : List (List Int)} (k : listB 40 h = false) : hordB h os = false := by rw [hordB, k]; rfl
theorem hordB_w {h : List Int} {os : List (List Int)} (k : worthB os = false) : hordB h os = false := by rw [hordB, k, Bool.false_and, Bool.and_false]
theorem hordB_n {h : List Int} {os : List (List Int)} (k : ordN (stackO h os 3) = none) : hordB h os = false := by rw [hordB, k]; simp
theorem hordB_yes {h r : List Int} {os : List (List Int)} (k1 : listB 40 h = true) (k2 : worthB os = true) (k4 : ordN (stackO h os 3) = some r) : hordB h os = true ∧ hordR h os = r := by
  have hb : hordB h os = true := by rw [hordB, k1, k2, k4]; rfl
  exact ⟨hb, by rw [hordR, if_pos hb, k4]; rfl⟩

theorem vld_zero : T.vldB [0] = true := T.vldB_true.2 ⟨by decide, T.z, rfl, trivial⟩
theorem natOk_vld {x y : List Int} (h : T.natOk x y = true) : T.vldB (T.natRow x y) = true := by
  simp only [T.natOk, Bool.and_eq_true] at h
  obtain ⟨⟨h1, h2⟩, h3⟩ := h
  rw [(T.natRow_val h1 h2).1, T.fit, if_pos h3]
  exact h3
theorem ordN_vld {l : List (List Int)} {r : List Int} (h : ordN l = some r) : T.vldB r = true := by
  rcases List.eq_nil_or_concat l with rfl | ⟨l', x, rfl⟩
  · cases h; exact vld_zero
  · rw [List.concat_eq_append, ordN_snoc] at h
    cases hx : ordN l' with
    | none => rw [hx] at h; cases h
    | some y =>
      rw [hx] at h
      cases ho : T.natOk y x with
      | true => rw [addO_yes ho] at h; cases h; exact natOk_vld ho
      | false => rw [addO_no ho] at h; cases h
theorem vld_len {x : List Int} (h : T.vldB x = true) : 1 ≤ x.length ∧ x.length ≤ 60 := by
  obtain ⟨hl, t, rfl, _⟩ := T.vldB_true.1 h
  exact ⟨by rw [T.enc_len]; omega, hl⟩
theorem hordR_le (h : List Int) (os : List (List Int)) : (hordR h os).length ≤ 60 := by
  unfold hordR
  split
  · rename_i hb
    simp only [hordB, Bool.and_eq_true] at hb
    obtain ⟨r, hr⟩ := Option.isSome_iff_exists.1 hb.2.2
    rw [hr]
    exact (vld_len (ordN_vld hr)).2
  · exact Nat.zero_le _

set_option maxHeartbeats 1000000 in
theorem areWorths_any (ao : Option Addr) (n c : Nat) (os : List (List Int)) (w : World) (hb : n ≤ 1048576) (h : SlR w ao n c os) :
    Calls Try.prog 57 #[.slice ao n c] w fun e w' => e = .returned (.bool (worthB os)) ∧ Below w.heap.size w w' := by
  have Hl := Lib.hid h.1
  by_cases h3 : n = 3
  · subst h3
    have kA : Hid (Calls Try.prog 81 #[.slice ao 3 c] w fun e w' => e = .returned (.bool (worthB os)) ∧ Below w.heap.size w w') := by
      have H := Lib.hid h
      obtain ⟨o, ho⟩ : ∃ o, o = worthB os := ⟨_, rfl⟩
      rw [← ho]
      have Ho := Lib.hid ho
      clear h ho
      refine Lib.hid ?_
      go_enter Try.func81, Try.ntmps81
      go_wp2_with fail
      go_loopg [7] 3 (fun gk i wr => ∃ (k : Nat), gk + k = 3 ∧ i = .int .i64 k ∧ Hid (∀ j x, j < k → os[j]? = some x → T.vldB x = true) ∧ Below w.heap.size w wr)
      case atStart => exact ⟨0, rfl, rfl, fun j t hj => by omega, Below.refl _ _⟩
      case round =>
        obtain ⟨k, hgk, rfl, HE, hbel⟩ := hrel
        have Hgk := Lib.hid hgk
        have hk : k ≤ 3 := by omega
        clear hgk
        by_cases hlt : k < 3
        · obtain ⟨x, hx⟩ : ∃ x, os[k]? = some x := ⟨os[k]'(by rw [Hl.out]; exact hlt), List.getElem?_eq_getElem _⟩
          obtain ⟨b, off, rfl, hat⟩ := (H.out.below hbel).2.2.2 (by omega)
          obtain ⟨a1, n1, c1, e1, s1⟩ := hat k x hx
          have kV := Lib.hid (impl_OrdValid a1 n1 c1 x wr s1)
          have Hbel := Lib.hid hbel
          rcases vld_tf x with hv | hv
          · rw [hv] at kV
            have HV := Lib.hid hv
            have Hx := Lib.hid hx
            clear hx s1 hat hv hbel
            go_wp2_with fail
            refine (kV.out).mono ?_
            rintro ee w2 ⟨rfl, hb2⟩
            have Hb2 := Lib.hid (Hbel.out.trans (hb2.mono Hbel.out.size))
            clear hb2
            go_wp2_with fail
            go_roundg (gk - 1)
            case measure => have := Hgk.out; omega
            case rel =>
              refine ⟨k + 1, by have := Hgk.out; omega, by go_num, fun j x' hj hx' => ?_, Hb2.out⟩
              by_cases hjk : j = k
              · subst hjk
                have h9 := Hx.out.symm.trans hx'
                cases h9
                exact HV.out
              · exact HE.out j x' (by omega) hx'
          · rw [hv] at kV
            have hoF : o = false := by rw [Ho.out]; exact worthB_at hx hv
            subst hoF
            clear hx s1 hat hv hbel
            go_wp2_with fail
            refine (kV.out).mono ?_
            rintro ee w2 ⟨rfl, hb2⟩
            have Hb2 := Lib.hid (Hbel.out.trans (hb2.mono Hbel.out.size))
            clear hb2
            go_wp2_with fail
            go_ret
            exact ⟨rfl, Hb2.out⟩
        · obtain rfl : k = 3 := by omega
          have Hbel := Lib.hid hbel
          have hoT : o = true := by rw [Ho.out]; exact worthB_all Hl.out (fun j x hj => HE.out j x (by rw [← Hl.out]; exact (List.getElem?_eq_some_iff.1 hj).1) hj)
          subst hoT
          clear hbel
          go_wp2_with fail
          go_ret
          exact ⟨rfl, Hbel.out⟩
    obtain ⟨o, ho⟩ : ∃ o, o = worthB os := ⟨_, rfl⟩
    rw [← ho] at kA ⊢
    clear h ho
    go_enter Try.func57, Try.ntmps57
    go_wp2_with fail
    refine (kA.out).mono ?_
    rintro ee w2 ⟨rfl, hb2⟩
    have Hb2 := Lib.hid hb2
    clear hb2
    go_wp2_with fail
    go_ret
    exact ⟨rfl, Hb2.out⟩
  · rw [worthB_len (by rw [Hl.out]; exact h3)]
    have h3' : ((n : Int) == 3) = false := by simp; omega
    clear h
    go_enter Try.func57, Try.ntmps57
    go_wp2_with fail
    go_ret
    exact ⟨rfl, Below.refl _ _⟩

end Go.Proofs.Ytgcdbndnpcfcnaa

/- TrOJ -/
/- HeapsOrd of the program. -/
namespace Go.Proofs.Ytgcdbndnpcfcnaa
set_option maxRecDepth 100000
open Go.RowKit

set_option maxHeartbeats 4000000 in
theorem impl_HeapsOrd (a0 : Option Addr) (n0 c0 : Nat) (h : List Int) (ao : Option Addr) (n c : Nat) (os : List (List Int)) (w : World) (hb0 : n0 ≤ 1048576) (hb : n ≤ 1048576) (h0 : Sl w a0 n0 c0 h) (hS : SlR w ao n c os) :
    Calls Try.prog 28 #[.slice a0 n0 c0, .slice ao n c] w (TdPost w (hordR h os) (hordB h os)) := by
  have kH := Lib.hid (impl_HeapsValid a0 n0 c0 h w (by omega) h0)
  have kW := Lib.hid (areWorths_any ao n c os w hb hS)
  have H0 := Lib.hid h0
  have HS := Lib.hid hS
  clear h0 hS
  rcases list_tf 40 h with hh | hh
  · rw [hh] at kH
    rcases worth_tf os with hw | hw
    · rw [hw] at kW
      obtain rfl : n0 = 3 := by rw [← H0.out.1]; exact (listB_true.1 hh).1
      obtain rfl : n = 3 := by rw [← HS.out.1]; exact (worthB_true.1 hw).1
      obtain ⟨r, hr⟩ : ∃ r, r = hordR h os := ⟨_, rfl⟩
      obtain ⟨o, ho⟩ : ∃ o, o = hordB h os := ⟨_, rfl⟩
      rw [← hr, ← ho]
      have Hr := Lib.hid hr
      have Ho := Lib.hid ho
      have Hh := Lib.hid hh
      have Hw := Lib.hid hw
      clear hr ho hh hw hb0 hb
      go_enter Try.func28, Try.ntmps28
      go_wp2_with fail
      refine (kH.out).mono ?_
      rintro ee wx ⟨rfl, rfl⟩
      go_wp2_with fail
      refine (kW.out).mono ?_
      rintro ee w1 ⟨rfl, hb1⟩
      have k0 := Lib.hid (impl_OrdOf 0 w1 (by decide) (by decide))
      rw [show T.num' 0 = [0] from rfl] at k0
      have Hb1 := Lib.hid hb1
      clear hb1
      go_wp2_with fail
      refine (k0.out).mono ?_
      rintro ee w2 ⟨a2, c2, rfl, ho2, hb2⟩
      have Ho2 := Lib.hid (Joins.ownsRow_le ho2 Hb1.out.size)
      have Hb2 := Lib.hid (Hb1.out.trans (hb2.mono Hb1.out.size))
      clear ho2 hb2
      go_wp2_with fail
      go_loopg [6, 21] 3 (fun gk v6 i wr => ∃ (k m : Nat) (s : List Int) (ak : Option Addr) (ck : Nat), gk + k = 3 ∧ i = .int .i64 k ∧ v6 = .slice ak m ck ∧ Hid (ordN (stackO h os k) = some s ∧ m = s.length) ∧ wr.ownsRow w.heap.size 3 1 (.slice ak m ck) m (ints s) ∧ Below w.heap.size w wr)
      case atStart => exact ⟨0, 1, [0], a2, c2, rfl, rfl, rfl, Lib.hid ⟨rfl, rfl⟩, Ho2.out, Hb2.out⟩
      case round =>
        obtain ⟨k, m, s, ak, ck, hgk, rfl, rfl, HR, hrow, hbel⟩ := hrel
        obtain ⟨GK, hGK⟩ : ∃ G, G = gk := ⟨_, rfl⟩
        rw [← hGK] at hgk
        have HGK := Lib.hid hGK
        clear hGK
        have Hgk := Lib.hid hgk
        have hk3 : k ≤ 3 := by omega
        clear hgk
        by_cases hlt : k < 3
        · obtain ⟨bh, oh, rfl, hath⟩ := (H0.out.below hbel).2.2.2 (by decide)
          have hxc := hath k (by rw [H0.out.1]; exact hlt)
          have hxb := listB_get Hh.out hlt
          obtain ⟨x, hx⟩ : ∃ x, x = h.getD k 0 := ⟨_, rfl⟩
          rw [← hx] at hxc hxb
          obtain ⟨X, hXX⟩ : ∃ X : Nat, x = X := ⟨x.toNat, by omega⟩
          have Hx := Lib.hid (hx.symm.trans hXX)
          have Hrow := Lib.hid hrow
          have Hbel := Lib.hid hbel
          have hx4 := hxb.2
          have hdk : decide ((k : Int) < 3) = true := decide_eq_true (by omega)
          clear hx hath hrow hbel hxb
          subst hXX
          go_wp2_with fail
          go_loopg [6, 27] X (fun gj v6 i wz => ∃ (j m : Nat) (s : List Int) (ak : Option Addr) (ck : Nat), gj + j = X ∧ i = .int .i64 j ∧ v6 = .slice ak m ck ∧ Hid (ordN (stackO h os k ++ List.replicate j (os.getD k [])) = some s ∧ m = s.length) ∧ wz.ownsRow w.heap.size 3 1 (.slice ak m ck) m (ints s) ∧ Below w.heap.size w wz)
          case atStart => exact ⟨0, m, s, ak, ck, by omega, rfl, rfl, Lib.hid (by simpa using HR.out), Hrow.out, Hbel.out⟩
          case round =>
            obtain ⟨j, m', s', ak', ck', hgj, rfl, rfl, HR', hrow', hbel'⟩ := hrel
            have Hgj := Lib.hid hgj
            by_cases hjx : j < X
            · obtain ⟨y, hy⟩ : ∃ y, os[k]? = some y := ⟨os[k]'(by rw [HS.out.1]; exact hlt), List.getElem?_eq_getElem _⟩
              obtain ⟨bo, oo, rfl, hato⟩ := (HS.out.below hbel').2.2.2 (by decide)
              obtain ⟨a1, n1, c1, e1, s1⟩ := hato k y hy
              have hgd : os.getD k [] = y := by simp [List.getD, hy]
              have kN := Lib.hid (impl_OrdNatural ak' a1 m' ck' n1 c1 s' y wr (Sl.of_own hrow') s1)
              unfold OrdOkPost at kN
              have hnext : ordN (stackO h os k ++ List.replicate (j + 1) (os.getD k [])) = addO (some s') y := by
                rw [List.replicate_succ', ← List.append_assoc, ordN_snoc, HR'.out.1, hgd]
              obtain ⟨rest, hrest⟩ := stackO_pre h os hlt (j := j + 1) (by rw [Hx.out]; push_cast; omega)
              have Hbel' := Lib.hid hbel'
              obtain ⟨q, hq⟩ : ∃ q, q = T.natOk s' y := ⟨_, rfl⟩
              obtain ⟨u, hu⟩ : ∃ u, u = T.natRow s' y := ⟨_, rfl⟩
              rw [← hq, ← hu] at kN
              cases q with
              | true =>
                have Hnx := Lib.hid (show ordN (stackO h os k ++ List.replicate (j + 1) (os.getD k [])) = some u by rw [hnext, addO_yes hq.symm, ← hu])
                clear hy hato s1 hgd hnext hrest hq hu hgj hrow' hbel'
                go_wp2_with fail
                refine (kN.out).mono ?_
                rintro ee w4 ⟨aR, cR, rfl, hoR, hb4⟩
                have HoR := Lib.hid (Joins.ownsRow_le hoR Hbel'.out.size)
                have Hb4 := Lib.hid (Hbel'.out.trans (hb4.mono Hbel'.out.size))
                clear hoR hb4
                go_wp2_with fail
                go_roundg (gk - 1)
                case measure => have := Hgj.out; omega
                case rel => exact ⟨j + 1, u.length, u, aR, cR, by have := Hgj.out; omega, by go_num, rfl, Lib.hid ⟨Hnx.out, rfl⟩, HoR.out, Hb4.out⟩
              | false =>
                have hn : ordN (stackO h os 3) = none := by rw [hrest]; exact ordN_fail (by rw [hnext]; exact addO_no hq.symm)
                have hoF : o = false := by rw [Ho.out]; exact hordB_n hn
                have hrN : r = [] := by rw [Hr.out]; exact hordR_no (by rw [← Ho.out]; exact hoF)
                subst hoF hrN
                clear hy hato s1 hgd hnext hrest hq hu hgj hrow' hbel' hn
                go_wp2_with fail
                refine (kN.out).mono ?_
                rintro ee w4 ⟨aR, cR, rfl, hoR, hb4⟩
                have Hb4 := Lib.hid (Hbel'.out.trans (hb4.mono Hbel'.out.size))
                clear hoR hb4
                go_wp2_with fail
                go_ret2
                exact td_nil Hb4.out
            · obtain rfl : j = X := by omega
              have HR2 := Lib.hid (show ordN (stackO h os (k + 1)) = some s' ∧ m' = s'.length by
                have h1 := HR'.out
                rw [stackO, Hx.out, Int.toNat_natCast]
                exact h1)
              have Hrow' := Lib.hid hrow'
              have Hbel' := Lib.hid hbel'
              clear hgj hrow' hbel'
              go_wp2_with fail
              go_roundg (GK - 1)
              case measure => have h1 := Hgk.out; have h2 := HGK.out; omega
              case rel => exact ⟨k + 1, m', s', ak', ck', by have := Hgk.out; omega, by go_num, rfl, HR2.out, Hrow'.out, Hbel'.out⟩
        · obtain rfl : k = 3 := by omega
          obtain ⟨hR1, hR2⟩ := HR.out
          obtain ⟨e1, e2⟩ := hordB_yes Hh.out Hw.out hR1
          rw [← Ho.out] at e1
          rw [← Hr.out] at e2
          subst hR2 e1 e2
          have HF := Lib.hid (show TdPost w r true (.returned (.tuple #[.slice ak r.length ck, .bool true])) wr from ⟨ak, ck, rfl, hrow, hbel⟩)
          clear hR1 hrow hbel
          go_wp2_with fail
          go_ret2
          exact HF.out
    · rw [hw] at kW
      rw [hordB_w hw, hordR_no (hordB_w hw)]
      go_enter Try.func28, Try.ntmps28
      go_wp2_with fail
      refine (kH.out).mono ?_
      rintro ee wx ⟨rfl, rfl⟩
      go_wp2_with fail
      refine (kW.out).mono ?_
      rintro ee w1 ⟨rfl, hb1⟩
      have Hb1 := Lib.hid hb1
      clear hb1
      go_wp2_with fail
      go_ret2
      exact td_nil Hb1.out
  · rw [hh] at kH
    rw [hordB_h hh, hordR_no (hordB_h hh)]
    go_enter Try.func28, Try.ntmps28
    go_wp2_with fail
    refine (kH.out).mono ?_
    rintro ee wx ⟨rfl, rfl⟩
    go_wp2_with fail
    go_ret2
    exact td_nil (Below.refl _ _)

end Go.Proofs.Ytgcdbndnpcfcnaa

/- TrOS -/
/- HeapsOrd of the model. -/
namespace Go.Proofs.Ytgcdbndnpcfcnaa
set_option maxRecDepth 100000
open Go.RowKit

set_option maxHeartbeats 4000000 in
theorem l8Ord_any (a0 : Option Addr) (c0 : Nat) (h : List Int) (ao : Option Addr) (c : Nat) (os : List (List Int)) (mx : Int) (hmx : mx ≤ 1000) (w : World) (hh : listB mx h = true) (h0 : Sl w a0 3 c0 h) (hS : SlR w ao 3 c os) :
    Calls Try.prog 59 #[.slice a0 3 c0, .slice ao 3 c] w fun e w' => ∃ a c', e = .returned (.slice a ((ordN (stackO h os 3)).getD []).length c') ∧ w'.ownsRow w.heap.size 3 1 (.slice a ((ordN (stackO h os 3)).getD []).length c') ((ordN (stackO h os 3)).getD []).length (ints ((ordN (stackO h os 3)).getD [])) ∧ Below w.heap.size w w' := by
  have H0 := Lib.hid h0
  have HS := Lib.hid hS
  have Hh := Lib.hid hh
  obtain ⟨r, hr⟩ : ∃ r, r = (ordN (stackO h os 3)).getD [] := ⟨_, rfl⟩
  rw [← hr]
  have Hr := Lib.hid hr
  have Ho2 := Lib.hid (show (w.alloc (.cells #[.int .i64 0] 3)).ownsRow w.heap.size 3 1 (.slice (some ⟨w.heap.size, 0, none⟩) 1 1) 1 (ints [0]) from World.ownsRow_lit w #[.int .i64 0] 1 (Nat.le_refl _) (by simp [maxLen]) rfl)
  have Hb2 := Lib.hid (show Below w.heap.size w (w.alloc (.cells #[.int .i64 0] 3)) from (Below.refl _ _).alloc (Nat.le_refl _) _)
  have Hmx := Lib.hid hmx
  clear hr hh h0 hS hmx
  go_enter Try.func59, Try.ntmps59
  go_wp2_with fail
  go_loopg [5, 6] 3 (fun gk v6 i wr => ∃ (k m : Nat) (s : List Int) (ak : Option Addr) (ck : Nat), gk + k = 3 ∧ i = .int .i64 k ∧ v6 = .slice ak m ck ∧ Hid (ordN (stackO h os k) = some s ∧ m = s.length) ∧ wr.ownsRow w.heap.size 3 1 (.slice ak m ck) m (ints s) ∧ Below w.heap.size w wr)
  case atStart => exact ⟨0, 1, [0], some ⟨w.heap.size, 0, none⟩, 1, rfl, rfl, rfl, Lib.hid ⟨rfl, rfl⟩, Ho2.out, Hb2.out⟩
  case round =>
    obtain ⟨k, m, s, ak, ck, hgk, rfl, rfl, HR, hrow, hbel⟩ := hrel
    obtain ⟨GK, hGK⟩ : ∃ G, G = gk := ⟨_, rfl⟩
    rw [← hGK] at hgk
    have HGK := Lib.hid hGK
    clear hGK
    have Hgk := Lib.hid hgk
    have hk3 : k ≤ 3 := by omega
    clear hgk
    by_cases hlt : k < 3
    · obtain ⟨bh, oh, rfl, hath⟩ := H0.out.2.2.2 (by decide)
      have hxb := listB_get Hh.out hlt
      have Hxc := Lib.hid (hath.below (Below.refl _ w) (hath.lt (by have h3 := (listB_true.1 Hh.out).1; intro h'; rw [h'] at h3; simp at h3)))
      obtain ⟨x, hx⟩ : ∃ x, x = h.getD k 0 := ⟨_, rfl⟩
      rw [← hx] at hxb
      obtain ⟨X, hXX⟩ : ∃ X : Nat, x = X := ⟨x.toNat, by omega⟩
      have Hx := Lib.hid (hx.symm.trans hXX)
      have HH := Lib.hid hath
      have Hrow := Lib.hid hrow
      have Hbel := Lib.hid hbel
      have hx4 : (X : Int) ≤ 1000 := by have := hxb.2; have := Hmx.out; omega
      have hdk : decide ((k : Int) < 3) = true := decide_eq_true (by omega)
      clear hx hath hrow hbel hxb
      subst hXX
      go_wp2_with fail
      go_loopg [5, 7] X (fun gj v6 i wz => ∃ (j m : Nat) (s : List Int) (ak : Option Addr) (ck : Nat), gj + j = X ∧ i = .int .i64 j ∧ v6 = .slice ak m ck ∧ Hid (ordN (stackO h os k ++ List.replicate j (os.getD k [])) = some s ∧ m = s.length) ∧ wz.ownsRow w.heap.size 3 1 (.slice ak m ck) m (ints s) ∧ Below w.heap.size w wz)
      case atStart => exact ⟨0, m, s, ak, ck, by omega, rfl, rfl, Lib.hid (by simpa using HR.out), Hrow.out, Hbel.out⟩
      case round =>
        obtain ⟨j, m', s', ak', ck', hgj, rfl, rfl, HR', hrow', hbel'⟩ := hrel
        have Hgj := Lib.hid hgj
        have hxc : wr.cell? ⟨bh, oh + k, none⟩ = some (.int .i64 X) := by
          have h1 := HH.out k (by rw [H0.out.1]; exact hlt)
          rw [Hx.out] at h1
          exact (hbel'.cell (cell_in h1)).trans h1
        by_cases hjx : j < X
        · obtain ⟨y, hy⟩ : ∃ y, os[k]? = some y := ⟨os[k]'(by rw [HS.out.1]; exact hlt), List.getElem?_eq_getElem _⟩
          obtain ⟨bo, oo, rfl, hato⟩ := (HS.out.below hbel').2.2.2 (by decide)
          obtain ⟨a1, n1, c1, e1, s1⟩ := hato k y hy
          have hgd : os.getD k [] = y := by simp [List.getD, hy]
          have kN := Lib.hid (spec_OrdNatural ak' a1 m' ck' n1 c1 s' y wr (Sl.of_own hrow') s1)
          unfold OrdOkPost at kN
          have hnext : ordN (stackO h os k ++ List.replicate (j + 1) (os.getD k [])) = addO (some s') y := by
            rw [List.replicate_succ', ← List.append_assoc, ordN_snoc, HR'.out.1, hgd]
          obtain ⟨rest, hrest⟩ := stackO_pre h os hlt (j := j + 1) (by rw [Hx.out]; push_cast; omega)
          have Hbel' := Lib.hid hbel'
          obtain ⟨q, hq⟩ : ∃ q, q = T.natOk s' y := ⟨_, rfl⟩
          obtain ⟨u, hu⟩ : ∃ u, u = T.natRow s' y := ⟨_, rfl⟩
          rw [← hq, ← hu] at kN
          cases q with
          | true =>
            have Hnx := Lib.hid (show ordN (stackO h os k ++ List.replicate (j + 1) (os.getD k [])) = some u by rw [hnext, addO_yes hq.symm, ← hu])
            clear hy hato s1 hgd hnext hrest hq hu hgj hrow' hbel'
            go_wp2_with fail
            refine (kN.out).mono ?_
            rintro ee w4 ⟨aR, cR, rfl, hoR, hb4⟩
            have HoR := Lib.hid (Joins.ownsRow_le hoR Hbel'.out.size)
            have Hb4 := Lib.hid (Hbel'.out.trans (hb4.mono Hbel'.out.size))
            clear hoR hb4
            go_wp2_with fail
            go_roundg (gk - 1)
            case measure => have := Hgj.out; omega
            case rel => exact ⟨j + 1, u.length, u, aR, cR, by have := Hgj.out; omega, by go_num, rfl, Lib.hid ⟨Hnx.out, rfl⟩, HoR.out, Hb4.out⟩
          | false =>
            have hn : ordN (stackO h os 3) = none := by rw [hrest]; exact ordN_fail (by rw [hnext]; exact addO_no hq.symm)
            have hrN : r = [] := by rw [Hr.out, hn]; rfl
            subst hrN
            clear hy hato s1 hgd hnext hrest hq hu hgj hrow' hbel' hn
            go_wp2_with fail
            refine (kN.out).mono ?_
            rintro ee w4 ⟨aR, cR, rfl, hoR, hb4⟩
            have Hb4 := Lib.hid (Hbel'.out.trans (hb4.mono Hbel'.out.size))
            clear hoR hb4
            go_wp2_with fail
            go_ret
            exact ⟨_, 0, rfl, World.ownsRow_lit w4 #[] 0 (by have := Hb4.out.size; omega) (by simp [maxLen]) rfl, Hb4.out.alloc (by have := Hb4.out.size; omega) _⟩
        · obtain rfl : j = X := by omega
          have HR2 := Lib.hid (show ordN (stackO h os (k + 1)) = some s' ∧ m' = s'.length by
            have h1 := HR'.out
            rw [stackO, Hx.out, Int.toNat_natCast]
            exact h1)
          have Hrow' := Lib.hid hrow'
          have Hbel' := Lib.hid hbel'
          clear hgj hrow' hbel'
          go_wp2_with fail
          go_roundg (GK - 1)
          case measure => have h1 := Hgk.out; have h2 := HGK.out; omega
          case rel => exact ⟨k + 1, m', s', ak', ck', by have := Hgk.out; omega, by go_num, rfl, HR2.out, Hrow'.out, Hbel'.out⟩
    · obtain rfl : k = 3 := by omega
      obtain ⟨hR1, hR2⟩ := HR.out
      have hrs : r = s := by rw [Hr.out, hR1]; rfl
      subst hR2 hrs
      have Hrow := Lib.hid hrow
      have Hbel := Lib.hid hbel
      clear hR1 hrow hbel
      go_wp2_with fail
      go_ret
      exact ⟨ak, ck, rfl, Hrow.out, Hbel.out⟩

set_option maxHeartbeats 4000000 in
theorem spec_HeapsOrd (a0 : Option Addr) (n0 c0 : Nat) (h : List Int) (ao : Option Addr) (n c : Nat) (os : List (List Int)) (w : World) (hb : n ≤ 1048576) (h0 : Sl w a0 n0 c0 h) (hS : SlR w ao n c os) :
    Calls Try.prog 29 #[.slice a0 n0 c0, .slice ao n c] w (TdPost w (hordR h os) (hordB h os)) := by
  have kH := Lib.hid (spec_HeapsValid a0 n0 c0 h w h0)
  have H0 := Lib.hid h0
  have HS := Lib.hid hS
  clear h0 hS
  rcases list_tf 40 h with hh | hh
  · rw [hh] at kH
    obtain rfl : n0 = 3 := by rw [← H0.out.1]; exact (listB_true.1 hh).1
    by_cases hn3 : n = 3
    · subst hn3
      obtain ⟨r, hr⟩ : ∃ r, r = hordR h os := ⟨_, rfl⟩
      obtain ⟨o, ho⟩ : ∃ o, o = hordB h os := ⟨_, rfl⟩
      rw [← hr, ← ho]
      have Hr := Lib.hid hr
      have Ho := Lib.hid ho
      have Hh := Lib.hid hh
      clear hr ho hh
      go_enter Try.func29, Try.ntmps29
      go_wp2_with fail
      refine (kH.out).mono ?_
      rintro ee wx ⟨rfl, rfl⟩
      go_wp2_with fail
      go_loopg [6] 3 (fun gk i wr => ∃ (k : Nat), gk + k = 3 ∧ i = .int .i64 k ∧ Hid (∀ j x, j < k → os[j]? = some x → T.vldB x = true) ∧ Below w.heap.size w wr)
      case atStart => exact ⟨0, rfl, rfl, fun j t hj => by omega, Below.refl _ _⟩
      case round =>
        obtain ⟨k, hgk, rfl, HE, hbel⟩ := hrel
        have Hgk := Lib.hid hgk
        have hk : k ≤ 3 := by omega
        clear hgk
        by_cases hlt : k < 3
        · obtain ⟨x, hx⟩ : ∃ x, os[k]? = some x := ⟨os[k]'(by rw [HS.out.1]; exact hlt), List.getElem?_eq_getElem _⟩
          obtain ⟨b, off, rfl, hat⟩ := (HS.out.below hbel).2.2.2 (by omega)
          obtain ⟨a1, n1, c1, e1, s1⟩ := hat k x hx
          have kV := Lib.hid (spec_OrdValid a1 n1 c1 x wr s1)
          have Hbel := Lib.hid hbel
          rcases vld_tf x with hv | hv
          · rw [hv] at kV
            have HV := Lib.hid hv
            have Hx := Lib.hid hx
            clear hx s1 hat hv hbel
            go_wp2_with fail
            refine (kV.out).mono ?_
            rintro ee w2 ⟨rfl, hb2⟩
            have Hb2 := Lib.hid (Hbel.out.trans (hb2.mono Hbel.out.size))
            clear hb2
            go_wp2_with fail
            go_roundg (gk - 1)
            case measure => have := Hgk.out; omega
            case rel =>
              refine ⟨k + 1, by have := Hgk.out; omega, by go_num, fun j x' hj hx' => ?_, Hb2.out⟩
              by_cases hjk : j = k
              · subst hjk
                have h9 := Hx.out.symm.trans hx'
                cases h9
                exact HV.out
              · exact HE.out j x' (by omega) hx'
          · rw [hv] at kV
            have hoF : o = false := by rw [Ho.out]; exact hordB_w (worthB_at hx hv)
            have hrN : r = [] := by rw [Hr.out]; exact hordR_no (by rw [← Ho.out]; exact hoF)
            subst hoF hrN
            clear hx s1 hat hv hbel
            go_wp2_with fail
            refine (kV.out).mono ?_
            rintro ee w2 ⟨rfl, hb2⟩
            have Hb2 := Lib.hid (Hbel.out.trans (hb2.mono Hbel.out.size))
            clear hb2
            go_wp2_with fail
            go_ret2
            exact td_lit Hb2.out
        · obtain rfl : k = 3 := by omega
          have hw := worthB_all HS.out.1 (fun j x hj => HE.out j x (by rw [← HS.out.1]; exact (List.getElem?_eq_some_iff.1 hj).1) hj)
          have kO := Lib.hid (l8Ord_any a0 c0 h ao c os 40 (by decide) wr Hh.out (H0.out.below hbel) (HS.out.below hbel))
          have Hbel := Lib.hid hbel
          cases hN : ordN (stackO h os 3) with
          | none =>
            have hoF : o = false := by rw [Ho.out]; exact hordB_n hN
            have hrN : r = [] := by rw [Hr.out]; exact hordR_no (by rw [← Ho.out]; exact hoF)
            rw [hN] at kO
            subst hoF hrN
            clear hN hw hbel
            go_wp2_with fail
            refine (kO.out).mono ?_
            rintro ee w2 ⟨a2, c2, rfl, ho2, hb2⟩
            have HF := Lib.hid (show TdPost w [] false (.returned (.tuple #[.slice a2 0 c2, .bool false])) w2 from ⟨a2, c2, rfl, Joins.ownsRow_le ho2 Hbel.out.size, Hbel.out.trans (hb2.mono Hbel.out.size)⟩)
            clear ho2 hb2
            go_wp2_with fail
            go_ret2
            exact HF.out
          | some s =>
            obtain ⟨e1, e2⟩ := hordB_yes Hh.out hw hN
            rw [← Ho.out] at e1
            rw [← Hr.out] at e2
            have hs1 := (vld_len (ordN_vld hN)).1
            rw [hN] at kO
            subst e1 e2
            have kO' : Hid (Calls Try.prog 59 #[.slice a0 3 c0, .slice ao 3 c] wr fun e w' => ∃ a c', e = .returned (.slice a r.length c') ∧ w'.ownsRow wr.heap.size 3 1 (.slice a r.length c') r.length (ints r) ∧ Below wr.heap.size wr w') := kO
            have hs2 : 0 < r.length := by omega
            clear hN hw hbel kO
            go_wp2_with fail
            refine (kO'.out).mono ?_
            rintro ee w2 ⟨a2, c2, rfl, ho2, hb2⟩
            have HF := Lib.hid (show TdPost w r true (.returned (.tuple #[.slice a2 r.length c2, .bool true])) w2 from ⟨a2, c2, rfl, Joins.ownsRow_le ho2 Hbel.out.size, Hbel.out.trans (hb2.mono Hbel.out.size)⟩)
            clear ho2 hb2
            go_wp2_with fail
            go_ret2
            exact HF.out
    · have hw : hordB h os = false := hordB_w (worthB_len (by rw [HS.out.1]; exact hn3))
      rw [hw, hordR_no hw]
      have hne : ((n : Int) != 3) = true := by simp; omega
      clear hw
      go_enter Try.func29, Try.ntmps29
      go_wp2_with fail
      refine (kH.out).mono ?_
      rintro ee wx ⟨rfl, rfl⟩
      go_wp2_with fail
      go_ret2
      exact td_lit (Below.refl _ _)
  · rw [hh] at kH
    rw [hordB_h hh, hordR_no (hordB_h hh)]
    go_enter Try.func29, Try.ntmps29
    go_wp2_with fail
    refine (kH.out).mono ?_
    rintro ee wx ⟨rfl, rfl⟩
    go_wp2_with fail
    go_ret2
    exact td_lit (Below.refl _ _)

end Go.Proofs.Ytgcdbndnpcfcnaa

/- TrOX -/
/- HeapsOrd of both. -/
namespace Go.Proofs.Ytgcdbndnpcfcnaa
set_option maxRecDepth 100000
end Go.Proofs.Ytgcdbndnpcfcnaa

/- NatM -/
/- Natural sums: brackets and order do not matter; greater ones make greater ones; sums are at most natural sums. -/
namespace Go.Proofs.Ytgcdbndnpcfcnaa
set_option maxRecDepth 100000
namespace T

theorem nat_assoc : ∀ (a b d : T), nat (nat a b) d = nat a (nat b d) := by
  intro a
  induction a with
  | z => intro b d; rw [z_nat, z_nat]
  | c n f q _ iha =>
    intro b
    induction b with
    | z => intro d; rw [nat_z, z_nat]
    | c m e r _ ihb =>
      intro d
      induction d with
      | z => rw [nat_z, nat_z]
      | c k g p _ ihd =>
        rcases cmp_vals f e with h | h | h
        · rcases cmp_vals e g with h' | h' | h'
          · rw [nat_lt n m q r h, nat_lt m k _ p h', ← nat_lt n m q r h, ihd, nat_lt m k r p h', nat_lt n k q _ (cmp_trans h h')]
          · have heg := cmp_eq h'
            subst heg
            rw [nat_lt n m q r h, nat_eq m k _ p h', ihb, nat_eq m k r p h', nat_lt n (m + k) q _ h]
          · rw [nat_lt n m q r h, nat_gt m k _ p h', ihb, nat_gt m k r p h', nat_lt n m q _ h]
        · have hfe := cmp_eq h
          subst hfe
          rcases cmp_vals f g with h' | h' | h'
          · rw [nat_eq n m q r h, nat_lt (n + m) k _ p h', ← nat_eq n m q r h, ihd, nat_lt m k r p h', nat_lt n k q _ h']
          · have hfg := cmp_eq h'
            subst hfg
            rw [nat_eq n m q r h, nat_eq (n + m) k _ p h', iha, nat_eq m k r p h', nat_eq n (m + k) q _ h', Int.add_assoc]
          · rw [nat_eq n m q r h, nat_gt (n + m) k _ p h', iha, nat_gt m k r p h', nat_eq n m q _ h]
        · rcases cmp_vals f g with h' | h' | h'
          · have h2 : e.cmp g = -1 := cmp_trans (b := f) (by have := cmp_swap f e; omega) h'
            rw [nat_gt n m q r h, nat_lt n k _ p h', ← nat_gt n m q r h, ihd, nat_lt m k r p h2, nat_lt n k q _ h']
          · have hfg := cmp_eq h'
            subst hfg
            have h2 : e.cmp f = -1 := by have := cmp_swap f e; omega
            rw [nat_gt n m q r h, nat_eq n k _ p h', iha, nat_lt m k r p h2, nat_eq n k q _ h']
          · rw [nat_gt n m q r h, nat_gt n k _ p h', iha]
            rcases cmp_vals e g with h2 | h2 | h2
            · rw [nat_lt m k r p h2, nat_gt n k q _ h']
            · have heg := cmp_eq h2
              subst heg
              rw [nat_eq m k r p h2, nat_gt n (m + k) q _ h]
            · rw [nat_gt m k r p h2, nat_gt n m q _ h]

theorem nat_self {s : T} {k : Int} {g p : T} (hk : 1 ≤ k) : (nat s (c k g p)).cmp s = 1 := by
  induction s with
  | z => rw [z_nat]; rfl
  | c n f q _ ih =>
    rcases cmp_vals f g with h | h | h
    · rw [nat_lt n k q p h]
      exact cmp_gt (by have := cmp_swap f g; omega)
    · rw [nat_eq n k q p h]
      exact cmp_more _ _ _ (by omega)
    · rw [nat_gt n k q p h, cmp_same]; exact ih

theorem nat_mono : ∀ (a b d : T), b.Pos → d.Pos → (nat a d).cmp (nat a b) = d.cmp b := by
  intro a
  induction a with
  | z => intro b d _ _; rw [z_nat, z_nat]
  | c n f q _ iha =>
    intro b
    induction b with
    | z =>
      intro d _ hd
      cases d with
      | z => rw [cmp_refl, cmp_refl]
      | c k g p => rw [nat_z, nat_self hd.1]; rfl
    | c m e r _ ihb =>
      intro d hb hd
      cases d with
      | z =>
        have h1 := nat_self (s := c n f q) (g := e) (p := r) hb.1
        have h2 := cmp_swap (nat (c n f q) (c m e r)) (c n f q)
        rw [nat_z]
        have h3 : (z : T).cmp (c m e r) = -1 := rfl
        omega
      | c k g p =>
        have hsw := cmp_swap f g
        have hsw' := cmp_swap f e
        rcases cmp_vals f g with h | h | h <;> rcases cmp_vals f e with h' | h' | h'
        · rw [nat_lt n k q p h, nat_lt n m q r h', cmp_c, cmp_c, ihb p hb.2 hd.2]
        · have hfe := cmp_eq h'
          subst hfe
          rw [nat_lt n k q p h, nat_eq n m q r h', cmp_gt (by omega), cmp_gt (by omega)]
        · rw [nat_lt n k q p h, nat_gt n m q r h', cmp_gt (by omega), cmp_gt (cmp_trans' (b := f) (by omega) h')]
        · have hfg := cmp_eq h
          subst hfg
          rw [nat_eq n k q p h, nat_lt n m q r h', cmp_lt h', cmp_lt h']
        · have hfg := cmp_eq h
          have hfe := cmp_eq h'
          subst hfg; subst hfe
          rw [nat_eq n k q p h, nat_eq n m q r h]
          rcases Int.lt_trichotomy k m with h1 | h1 | h1
          · rw [cmp_less _ _ _ (by omega), cmp_less _ _ _ h1]
          · subst h1; rw [cmp_same, cmp_same]; exact iha _ _ hb.2 hd.2
          · rw [cmp_more _ _ _ (by omega), cmp_more _ _ _ h1]
        · have hfg := cmp_eq h
          subst hfg
          rw [nat_eq n k q p h, nat_gt n m q r h', cmp_more _ _ _ (by have := hd.1; omega), cmp_gt h']
        · rw [nat_gt n k q p h, nat_lt n m q r h', cmp_lt h', cmp_lt (cmp_trans (b := f) (by omega) h')]
        · have hfe := cmp_eq h'
          subst hfe
          rw [nat_gt n k q p h, nat_eq n m q r h', cmp_less _ _ _ (by have := hb.1; omega), cmp_lt (by omega)]
        · rw [nat_gt n k q p h, nat_gt n m q r h', cmp_same]
          exact iha _ _ hb hd

theorem nat_ge (s t : T) (hs : s.Pos) : t.cmp (nat s t) ≠ 1 := by
  have h1 := nat_mono t z s trivial hs
  rw [nat_z, nat_comm t s] at h1
  have h2 := cmp_swap (nat s t) t
  have h3 : s.cmp z ≠ -1 := by cases s <;> simp [cmp]
  omega

theorem add_le_nat : ∀ (s t : T), s.Pos → (add s t).cmp (nat s t) ≠ 1 := by
  intro s
  induction s with
  | z => intro t _; rw [z_add, z_nat, cmp_refl]; decide
  | c n f q _ ih =>
    intro t hs
    cases t with
    | z => rw [add_z, nat_z, cmp_refl]; decide
    | c m e r =>
      rcases cmp_vals f e with h | h | h
      · rw [add_lt n m q r h, nat_lt n m q r h, cmp_same]; exact nat_ge _ _ hs
      · have hfe := cmp_eq h
        subst hfe
        rw [add_eq n m q r h, nat_eq n m q r h, Int.add_comm, cmp_same]; exact nat_ge _ _ hs.2
      · rw [add_gt n m q r h, nat_gt n m q r h, cmp_same]; exact ih _ hs.2

theorem natOk_true {xs ys : List Int} (h : natOk xs ys = true) : vldB xs = true ∧ vldB ys = true ∧ vldB (natRow xs ys) = true ∧ of (natRow xs ys) = nat (of xs) (of ys) := by
  have h1 : (vldB xs = true ∧ vldB ys = true) ∧ vldB (nat (of xs) (of ys)).enc = true := by simpa [natOk] using h
  have h2 : natRow xs ys = (nat (of xs) (of ys)).enc := by rw [(natRow_val h1.1.1 h1.1.2).1, fit, if_pos h1.2]
  exact ⟨h1.1.1, h1.1.2, by rw [h2]; exact h1.2, by rw [h2, of_enc]⟩
theorem natOk_false {xs ys : List Int} (h : natOk xs ys = false) : natRow xs ys = [] := by
  rw [natRow]
  split
  · rename_i h1
    rw [fit, if_neg]
    intro h2
    rw [natOk, h1.1, h1.2, h2] at h
    cases h
  · rfl
theorem natRow_comm (xs ys : List Int) : natRow ys xs = natRow xs ys ∧ natOk ys xs = natOk xs ys := by
  constructor
  · rw [natRow, natRow, nat_comm (of ys)]
    by_cases h1 : vldB xs = true <;> by_cases h2 : vldB ys = true <;> simp [h1, h2]
  · rw [natOk, natOk, nat_comm (of ys), Bool.and_comm (vldB ys)]
theorem natRow_assoc {xs ys zs : List Int} (h : natOk xs ys = true) (hp : natOk (natRow xs ys) zs = true) (hq : natOk ys zs = true) (hr : natOk xs (natRow ys zs) = true) :
    natRow (natRow xs ys) zs = natRow xs (natRow ys zs) := by
  obtain ⟨_, _, _, a4⟩ := natOk_true h
  obtain ⟨_, _, b3, b4⟩ := natOk_true hp
  obtain ⟨_, _, _, c4⟩ := natOk_true hq
  obtain ⟨_, _, d3, d4⟩ := natOk_true hr
  rw [← enc_of b3, ← enc_of d3, b4, d4, a4, c4, nat_assoc]
theorem natRow_mono {xs ys zs : List Int} (h : natOk xs ys = true) (hs : natOk xs zs = true) : cmpRow (natRow xs zs) (natRow xs ys) = cmpRow zs ys := by
  obtain ⟨a1, a2, a3, a4⟩ := natOk_true h
  obtain ⟨_, b2, b3, b4⟩ := natOk_true hs
  rw [cmpRow_val b3 a3, cmpRow_val b2 a2, b4, a4]
  exact nat_mono _ _ _ (nf_pos (nf_of a2)) (nf_pos (nf_of b2))
theorem natRow_sum {xs ys : List Int} (h : natOk xs ys = true) (hs : addOk xs ys = true) : cmpRow (addRow xs ys) (natRow xs ys) ≤ 0 := by
  obtain ⟨a1, a2, a3, a4⟩ := natOk_true h
  obtain ⟨_, b2, b3, b4⟩ := addOk_true hs
  rw [cmpRow_val b3 a3, b4, a4]
  have h1 := add_le_nat (of xs) (of ys) (nf_pos (nf_of a1))
  rcases cmp_vals (add (of xs) (of ys)) (nat (of xs) (of ys)) with h | h | h <;> omega

end T
end Go.Proofs.Ytgcdbndnpcfcnaa

/- HOrdM -/
/- More things are worth as much or more: without memory. -/
namespace Go.Proofs.Ytgcdbndnpcfcnaa
set_option maxRecDepth 100000
open Go.RowKit

/-- The natural sum of a list of trees. -/
def natL (s : T) (l : List T) : T := l.foldl T.nat s
theorem natL_in (s x : T) (l : List T) : natL (T.nat s x) l = T.nat (natL s l) x := by
  induction l generalizing s with
  | nil => rfl
  | cons y l ih =>
    show natL (T.nat (T.nat s x) y) l = T.nat (natL (T.nat s y) l) x
    rw [T.nat_assoc s x y, T.nat_comm x y, ← T.nat_assoc s y x, ih]
theorem natL_app (s : T) (l r : List T) : natL s (l ++ r) = natL (natL s l) r := by rw [natL, List.foldl_append]; rfl
theorem natL_ins (s x : T) (a b : List T) : natL s (a ++ x :: b) = T.nat (natL s (a ++ b)) x := by
  rw [natL_app, natL_app]
  exact natL_in (natL s a) x b

theorem of_zero : T.of [0] = T.z := by
  have : ([0] : List Int) = T.z.enc := rfl
  rw [this, T.of_enc]

theorem fold_of (l : List (List Int)) (y r : List Int) (h : l.foldl addO (some y) = some r) : T.of r = natL (T.of y) (l.map T.of) := by
  induction l generalizing y with
  | nil => cases h; rfl
  | cons x l ih =>
    cases ho : T.natOk y x with
    | true =>
      rw [List.foldl_cons, addO_yes ho] at h
      rw [ih _ h, (T.natOk_true ho).2.2.2]
      rfl
    | false =>
      rw [List.foldl_cons, addO_no ho, addO_none] at h
      cases h
theorem ordN_of {l : List (List Int)} {r : List Int} (h : ordN l = some r) : T.of r = natL T.z (l.map T.of) := by
  rw [fold_of l [0] r h, of_zero]

/-- One thing more in a heap. -/
def moreH (h : List Int) (k : Nat) : List Int := h.set k (h.getD k 0 + 1)
theorem moreH_len (h : List Int) (k : Nat) : (moreH h k).length = h.length := by rw [moreH, List.length_set]

theorem stack_more {x y z : Int} (hx : 0 ≤ x) (hy : 0 ≤ y) (hz : 0 ≤ z) (os : List (List Int)) {k : Nat} (hk : k < 3) :
    ∃ a b, stackO [x, y, z] os 3 = a ++ b ∧ stackO (moreH [x, y, z] k) os 3 = a ++ os.getD k [] :: b := by
  have hs : ∀ (n : Int) (o : List Int), 0 ≤ n → List.replicate (n + 1).toNat o = o :: List.replicate n.toNat o := by
    intro n o hn
    rw [show (n + 1).toNat = n.toNat + 1 by omega, List.replicate_succ]
  have : k = 0 ∨ k = 1 ∨ k = 2 := by omega
  rcases this with rfl | rfl | rfl
  · refine ⟨[], _, rfl, ?_⟩
    show (([] ++ List.replicate (x + 1).toNat (os.getD 0 [])) ++ List.replicate y.toNat (os.getD 1 [])) ++ List.replicate z.toNat (os.getD 2 []) = _
    rw [hs x _ hx]
    rfl
  · refine ⟨[] ++ List.replicate x.toNat (os.getD 0 []), List.replicate y.toNat (os.getD 1 []) ++ List.replicate z.toNat (os.getD 2 []), List.append_assoc _ _ _, ?_⟩
    show (([] ++ List.replicate x.toNat (os.getD 0 [])) ++ List.replicate (y + 1).toNat (os.getD 1 [])) ++ List.replicate z.toNat (os.getD 2 []) = _
    rw [hs y _ hy, List.append_assoc]
    rfl
  · refine ⟨([] ++ List.replicate x.toNat (os.getD 0 [])) ++ List.replicate y.toNat (os.getD 1 []), List.replicate z.toNat (os.getD 2 []), rfl, ?_⟩
    show (([] ++ List.replicate x.toNat (os.getD 0 [])) ++ List.replicate y.toNat (os.getD 1 [])) ++ List.replicate (z + 1).toNat (os.getD 2 []) = _
    rw [hs z _ hz]

theorem hord_parts {h : List Int} {os : List (List Int)} (hb : hordB h os = true) : listB 40 h = true ∧ worthB os = true ∧ ordN (stackO h os 3) = some (hordR h os) := by
  have hb' := hb
  simp only [hordB, Bool.and_eq_true] at hb
  obtain ⟨r, hr⟩ := Option.isSome_iff_exists.1 hb.2.2
  exact ⟨hb.1, hb.2.1, by rw [hordR, if_pos hb', hr]; rfl⟩

theorem hord_more {h : List Int} {os : List (List Int)} {k : Nat} (hk : k < 3) (h1 : hordB h os = true) (h2 : hordB (moreH h k) os = true) : ¬ (T.cmpRow (hordR (moreH h k) os) (hordR h os) < 0) := by
  obtain ⟨a1, a2, a3⟩ := hord_parts h1
  obtain ⟨b1, _, b3⟩ := hord_parts h2
  have hl := (listB_true.1 a1).1
  have g0 := (listB_get a1 (by decide : 0 < 3)).1
  have g1 := (listB_get a1 (by decide : 1 < 3)).1
  have g2 := (listB_get a1 (by decide : 2 < 3)).1
  obtain ⟨a, b, e1, e2⟩ := stack_more g0 g1 g2 os hk
  rw [← three hl] at e1 e2
  have o1 := ordN_of a3
  have o2 := ordN_of b3
  rw [e1, List.map_append] at o1
  rw [e2, List.map_append, List.map_cons, natL_ins, ← o1] at o2
  rw [T.cmpRow_val (ordN_vld b3) (ordN_vld a3), o2]
  have hv : T.vldB (os.getD k []) = true := by
    have hkl : k < os.length := by rw [(worthB_true.1 a2).1]; exact hk
    have : os.getD k [] = os[k] := by simp [List.getD, hkl]
    rw [this]
    exact (worthB_true.1 a2).2 _ (List.getElem_mem hkl)
  obtain ⟨t, _, hnf, _, hot⟩ := T.vld_of hv
  have h3 := T.nat_ge (T.of (os.getD k [])) (T.of (hordR h os)) (by rw [hot]; exact T.nf_pos hnf)
  rw [T.nat_comm (T.of (os.getD k []))] at h3
  have h4 := T.cmp_swap (T.nat (T.of (hordR h os)) (T.of (os.getD k []))) (T.of (hordR h os))
  have h5 := T.cmp_vals (T.nat (T.of (hordR h os)) (T.of (os.getD k []))) (T.of (hordR h os))
  omega

theorem hord_zero {os : List (List Int)} (hw : worthB os = true) : hordB [0, 0, 0] os = true ∧ hordR [0, 0, 0] os = [0] := hordB_yes (by decide) hw rfl

end Go.Proofs.Ytgcdbndnpcfcnaa

/- DrawL -/
/- What the laws of chapter 2 draw: small ordinals, one or two. -/
namespace Go.Proofs.Ytgcdbndnpcfcnaa
set_option maxRecDepth 100000
open Go.RowKit

theorem By.later {w w' : World} {a : Option Addr} {len cap : Nat} (h : By w a len cap) (hb : Below w.heap.size w w') : By w' a len cap := by
  refine ⟨h.1, h.2.1, fun hp => ?_⟩
  obtain ⟨b, off, h1, h2, h3⟩ := h.2.2 hp
  refine ⟨b, off, h1, Nat.lt_of_lt_of_le h2 hb.size, fun j hj => ?_⟩
  obtain ⟨v, h4, h5⟩ := h3 j hj
  exact ⟨v, h4, (hb.cell (p := ⟨b, off + j, none⟩) h2).trans h5⟩

def LitPost (w : World) (g P : Nat) (e : Ending) (w' : World) : Prop :=
  ∃ (xs : List Int) (g' n c : Nat), n = xs.length ∧ e = .returned (.slice (some ⟨g', 0, none⟩) n c) ∧ w'.ownsRow w.heap.size 3 1 (.slice (some ⟨g', 0, none⟩) n c) n (ints xs) ∧
    n ≤ 200 ∧ RdOk w' g (P + 2100) ∧ w.grownBy w' (some g)

def LitRel (w : World) (g P k : Nat) (v5 v6 : Value) (wr : World) : Prop :=
  ∃ (j : Nat) (t : T) (g1 c1 : Nat), v6 = .int .i64 j ∧ k + j = 4 ∧ v5 = .slice (some ⟨g1, 0, none⟩) t.enc.length c1 ∧ wr.ownsRow w.heap.size 3 1 v5 t.enc.length (ints t.enc) ∧
    t.enc.length ≤ 140 ∧ RdOk wr g (P + 200 + j * 61) ∧ w.grownBy wr (some g)

theorem lit_fin {w w7 w8 : World} {g P n g' c : Nat} {xs : List Int} (h0 : w.grownBy w7 (some g)) (hg : w7.grownBy w8 none) (hr : RdOk w7 g (P + 2100)) (hn : n = xs.length) (hl : n ≤ 200)
    (ho : w7.ownsRow w.heap.size 3 1 (.slice (some ⟨g', 0, none⟩) n c) n (ints xs)) : LitPost w g P (.returned (.slice (some ⟨g', 0, none⟩) n c)) w8 :=
  ⟨xs, g', n, c, hn, rfl, ho.kept hg (.inr (by simp [Value.ownBlock])), hl, hr.kept hg (fun k hk => by cases hk), grownBy_step h0 hg (fun k hk => by cases hk)⟩

set_option maxHeartbeats 2000000 in
theorem l20Little_any (g P : Nat) (n : Int) (w : World) (hP : P ≤ 80000000) (hn0 : 0 ≤ n) (hn1 : n ≤ 1000000) (hrd : RdOk w g P) :
    Calls Try.prog 80 #[.pointer (some ⟨g, 0, none⟩), .int .i64 n] w (LitPost w g P) := by
  have hgl : g < w.heap.size := by obtain ⟨_, _, _, _, h1, _⟩ := hrd; exact (Array.getElem?_eq_some_iff.1 h1).1
  have k0 := Lib.hid (odd_any g P n w (by omega) (by omega) (by omega) hrd)
  clear hrd
  go_enter Try.func80, Try.ntmps80
  go_wp2_with fail
  refine (k0.out).mono ?_
  rintro ee w0 ⟨b, rfl, hr0, hg0⟩
  have Hr0 := Lib.hid hr0
  have Hg0 := Lib.hid hg0
  have hg0s := hg0.size
  clear hr0 hg0
  cases b with
  | true =>
    have k1 := Lib.hid (l20Ord_any g (P + 1) 1 w0 (by omega) (by decide) (by decide) Hr0.out)
    go_wp2_with fail
    refine (k1.out).mono ?_
    rintro ee w1 ⟨xs, g1, m, c, hm, rfl, ho, hl, hr, hg⟩
    have hfin : LitPost w g P (.returned (.slice (some ⟨g1, 0, none⟩) m c)) w1 := ⟨xs, g1, m, c, hm, rfl, Joins.ownsRow_le ho hg0s, hl, hr.mono (by omega), grownBy_trans Hg0.out hg⟩
    have Hfin := Lib.hid hfin
    clear hm ho hr hg hfin
    go_wp2_with fail
    go_ret
    exact Hfin.out
  | false =>
    have k3 := Lib.hid (l20Raw_any 4 2 g (P + 1) w0 (by omega) (by omega) (by omega) Hr0.out)
    go_wp2_with fail
    refine (k3.out).mono ?_
    rintro ee w1 ⟨t1, g1, c1, rfl, ho1, hl1, hr1, hg1⟩
    have hst : LitRel w g P 4 (.slice (some ⟨g1, 0, none⟩) t1.enc.length c1) (.int .i64 0) w1 :=
      ⟨0, t1, g1, c1, rfl, rfl, rfl, Joins.ownsRow_le ho1 hg0s, Nat.le_trans hl1 (by decide), hr1.mono (by simp [Cb] <;> omega), grownBy_trans Hg0.out hg1⟩
    have Hst := Lib.hid hst
    clear hst ho1 hl1 hr1 hg1
    go_wp2_with fail
    go_loopg [5, 6] 4 (fun k v5 v6 wr => LitRel w g P k v5 v6 wr)
    case atStart => exact Hst.out
    case round =>
      obtain ⟨j, t, g2, c2, rfl, hkj, rfl, ho, hl, hr, hg⟩ := hrel
      have Hkj := Lib.hid hkj
      have Ho := Lib.hid ho
      have Hr := Lib.hid hr
      have Hg := Lib.hid hg
      have hj4 : j ≤ 4 := by omega
      by_cases hj : j < 4
      · by_cases hlen : 16 < t.enc.length
        · have k2 := Lib.hid (l20Raw_any 4 1 g (P + 200 + j * 61) wr (by omega) (by omega) (by omega) hr)
          clear hkj ho hr hg
          go_wp2_with fail
          refine (k2.out).mono ?_
          rintro ee w2 ⟨t2, g3, c3, rfl, ho2, hl2, hr2, hg2⟩
          have hfin : LitRel w g P (gk - 1) (.slice (some ⟨g3, 0, none⟩) t2.enc.length c3) (.int .i64 ((j + 1 : Nat) : Int)) w2 :=
            ⟨j + 1, t2, g3, c3, rfl, by have := Hkj.out; omega, rfl, Joins.ownsRow_le ho2 Hg.out.size, Nat.le_trans hl2 (by decide), hr2.mono (by simp [Cb]; omega), grownBy_trans Hg.out hg2⟩
          have Hfin := Lib.hid hfin
          clear hfin ho2 hl2 hr2 hg2
          go_wp2_with fail
          go_roundg (gk - 1)
          case measure => have := Hkj.out; omega
          case rel => exact Hfin.out
        · clear hkj ho hr hg
          go_wp2_with fail
          go_ret
          exact ⟨t.enc, g2, t.enc.length, c2, rfl, rfl, Ho.out, by omega, Hr.out.mono (by omega), Hg.out⟩
      · clear hkj ho hr hg
        go_wp2_with fail
        go_ret
        exact ⟨t.enc, g2, t.enc.length, c2, rfl, rfl, Ho.out, by omega, Hr.out.mono (by omega), Hg.out⟩

def BothPost (w : World) (g P : Nat) (e : Ending) (w' : World) : Prop :=
  ∃ (xs ys : List Int) (g1 n c g2 n2 c2 : Nat), n = xs.length ∧ n2 = ys.length ∧ e = .returned (.tuple #[.slice (some ⟨g1, 0, none⟩) n c, .slice (some ⟨g2, 0, none⟩) n2 c2]) ∧
    w'.ownsRow w.heap.size 3 1 (.slice (some ⟨g1, 0, none⟩) n c) n (ints xs) ∧ w'.ownsRow w.heap.size 3 1 (.slice (some ⟨g2, 0, none⟩) n2 c2) n2 (ints ys) ∧ n ≤ 200 ∧ n2 ≤ 200 ∧ RdOk w' g (P + 4200) ∧ w.grownBy w' (some g)


def DrawBoth (w : World) (e : Ending) (w' : World) : Prop :=
  ∃ (xs ys : List Int) (g n c g2 n2 c2 : Nat), n = xs.length ∧ n2 = ys.length ∧ e = .returned (.tuple #[.slice (some ⟨g, 0, none⟩) n c, .slice (some ⟨g2, 0, none⟩) n2 c2]) ∧
    w'.ownsRow w.heap.size 3 1 (.slice (some ⟨g, 0, none⟩) n c) n (ints xs) ∧ w'.ownsRow w.heap.size 3 1 (.slice (some ⟨g2, 0, none⟩) n2 c2) n2 (ints ys) ∧ n ≤ 200 ∧ n2 ≤ 200 ∧ Below w.heap.size w w'


end Go.Proofs.Ytgcdbndnpcfcnaa

/- DrawH -/
/- What FnHeapsOrd draws: heaps and three ordinals. -/
namespace Go.Proofs.Ytgcdbndnpcfcnaa
set_option maxRecDepth 100000
open Go.RowKit

/-- A list that was drawn. -/
def HpDrw (w : World) (g P : Nat) (e : Ending) (w' : World) : Prop :=
  ∃ (xs : List Int) (g' n c : Nat), n = xs.length ∧ e = .returned (.slice (some ⟨g', 0, none⟩) n c) ∧ w'.ownsRow w.heap.size 3 1 (.slice (some ⟨g', 0, none⟩) n c) n (ints xs) ∧
    n ≤ 3 ∧ RdOk w' g (P + 10) ∧ w.grownBy w' (some g)

theorem own_tak2 {w : World} {B e size g n c m : Nat} {xs : List Value} (h : w.ownsRow B e size (.slice (some ⟨g, 0, none⟩) n c) n xs) (hm : m ≤ n) : w.ownsRow B e size (.slice (some ⟨g, 0, none⟩) m c) m (xs.take (m * size)) := by
  have hle : m * size ≤ n * size := Nat.mul_le_mul_right _ hm
  refine ⟨by rw [List.length_take, h.1]; omega, ?_⟩
  rcases h.2 with ⟨h1, _⟩ | ⟨g', c', cur, h1, h2, h3, h4, h5, h6, h7⟩
  · cases h1
  · cases h1
    exact .inr ⟨g, c, cur, rfl, h2, h3, by omega, h5, h6, by rw [← h7, List.take_take, Nat.min_eq_left hle]⟩

theorem set_grown (w : World) (p : Addr) (v : Value) : w.grownBy (w.setCell p v) (some p.block) :=
  ⟨rfl, rfl, rfl, by simp [World.setCell], fun k _ hk => heap_setCell_other w p k v (fun e => hk (by simp [e]))⟩

set_option maxHeartbeats 4000000 in
theorem l20Heaps_any (g P : Nat) (n : Int) (w : World) (hP : P ≤ 90000000) (hn0 : 0 ≤ n) (hn1 : n ≤ 1000000) (hrd : RdOk w g P) :
    Calls Try.prog 55 #[.pointer (some ⟨g, 0, none⟩), .int .i64 n] w (HpDrw w g P) := by
  have hgl : g < w.heap.size := by obtain ⟨_, _, _, _, h1, _⟩ := hrd; exact (Array.getElem?_eq_some_iff.1 h1).1
  have k1 := Lib.hid (pick_any g P 4 w (by omega) (by decide) (by decide) hrd)
  clear hrd
  go_enter Try.func55, Try.ntmps55
  go_wp2_with fail
  refine (k1.out).mono ?_
  rintro ee w1 ⟨x1, rfl, hx1, hr1, hg1⟩
  have k2 := Lib.hid (pick_any g (P + 1) 4 w1 (by omega) (by decide) (by decide) hr1)
  have Hg1 := Lib.hid hg1
  clear hx1 hr1 hg1
  go_wp2_with fail
  refine (k2.out).mono ?_
  rintro ee w2 ⟨x2, rfl, hx2, hr2, hg2⟩
  have k3 := Lib.hid (pick_any g (P + 1 + 1) 5 w2 (by omega) (by decide) (by decide) hr2)
  have Hg2 := Lib.hid (grownBy_trans Hg1.out hg2)
  clear hx2 hr2 hg2
  go_wp2_with fail
  refine (k3.out).mono ?_
  rintro ee w3 ⟨x3, rfl, hx3, hr3, hg3⟩
  have Hg3 := Lib.hid (grownBy_trans Hg2.out hg3)
  obtain ⟨W, hW⟩ : ∃ W, w3.alloc (.cells #[.int .i64 x1, .int .i64 x2, .int .i64 x3] 3) = W := ⟨_, rfl⟩
  have hgW : w3.grownBy W none := by rw [← hW]; exact World.grownBy_alloc w3 _ none
  have hoW : W.ownsRow w3.heap.size 3 1 (.slice (some ⟨w3.heap.size, 0, none⟩) 3 3) 3 (ints [x1, x2, x3]) := by rw [← hW]; exact World.ownsRow_lit w3 #[.int .i64 x1, .int .i64 x2, .int .i64 x3] 3 (Nat.le_refl _) (by simp [maxLen]) rfl
  have HgW := Lib.hid (gs Hg3.out hgW (fun k hk => by cases hk))
  have HrW := Lib.hid (hr3.kept hgW (fun k hk => by cases hk))
  have HoW := Lib.hid hoW
  have Hs3 := Lib.hid Hg3.out.size
  have ko := Lib.hid (odd_any g (P + 1 + 1 + 1) n W (by omega) (by omega) (by omega) HrW.out)
  clear hx3 hr3 hg3 hgW hoW
  go_wp2_with fail
  refine (ko.out).mono ?_
  rintro ee w6 ⟨b, rfl, hr6, hg6⟩
  have Hg6 := Lib.hid (grownBy_trans HgW.out hg6)
  have Ho6 := Lib.hid (own_rd HoW.out hg6 (Nat.lt_of_lt_of_le hgl Hs3.out))
  have Hr6 := Lib.hid hr6
  clear hr6 hg6 hW
  cases b with
  | false =>
    go_wp2_with fail
    go_ret
    exact ⟨[x1, x2, x3], _, 3, 3, rfl, rfl, Joins.ownsRow_le Ho6.out Hs3.out, by decide, Hr6.out.mono (by omega), Hg6.out⟩
  | true =>
    have kp := Lib.hid (pick_any g (P + 1 + 1 + 1 + 1) 3 w6 (by omega) (by decide) (by decide) Hr6.out)
    go_wp2_with fail
    refine (kp.out).mono ?_
    rintro ee w7 ⟨r, rfl, hr7, hrd7, hg7⟩
    have hr70 := hr7.1
    have hr71 := hr7.2.1 (by decide)
    have Hg7 := Lib.hid (grownBy_trans Hg6.out hg7)
    have Ho7 := Lib.hid (own_rd Ho6.out hg7 (Nat.lt_of_lt_of_le hgl Hs3.out))
    have Hr7 := Lib.hid hrd7
    have hf1 := Ho7.out.frozenAt 1
    have hf2 := Ho7.out.frozenAt 2
    have hc1 : w7.cell? ⟨w3.heap.size, 1, none⟩ = some (.int .i64 x2) := by rw [Ho7.out.cellAt 1 (by decide)]; rfl
    have hc2 : w7.cell? ⟨w3.heap.size, 2, none⟩ = some (.int .i64 x3) := by rw [Ho7.out.cellAt 2 (by decide)]; rfl
    have hset : ∀ (j : Nat) (z : Int) (ys : List Int), (ints [x1, x2, x3]).set j (.int .i64 z) = ints ys → ys.length = 3 → HpDrw w g P (.returned (.slice (some ⟨w3.heap.size, 0, none⟩) 3 3)) (w7.setCell ⟨w3.heap.size, j, none⟩ (.int .i64 z)) := by
      intro j z ys he hl
      have h7 := (Ho7.out.stored j (.int .i64 z)).1
      rw [he] at h7
      have hg := set_grown w7 ⟨w3.heap.size, j, none⟩ (.int .i64 z)
      have hlt : g < w3.heap.size := Nat.lt_of_lt_of_le hgl Hs3.out
      exact ⟨ys, _, 3, 3, hl.symm, rfl, Joins.ownsRow_le h7 Hs3.out, by decide, (Hr7.out.kept hg (fun k hk => by cases hk; exact hlt)).mono (by omega), gs Hg7.out hg (fun k hk => by cases hk; exact Hs3.out)⟩
    have Hset := Lib.hid hset
    clear hr7 hrd7 hg7 hset
    have hcase : r = 0 ∨ r = 1 ∨ r = 2 := by omega
    rcases hcase with rfl | rfl | rfl
    · go_wp2_with fail
      go_ret
      exact ⟨[x1, x2], _, 2, 3, rfl, rfl, Joins.ownsRow_le (own_tak2 Ho7.out (m := 2) (by decide)) Hs3.out, by decide, Hr7.out.mono (by omega), Hg7.out⟩
    · go_wp2_with fail
      go_ret
      exact Hset.out 1 41 [x1, 41, x3] rfl rfl
    · go_wp2_with fail
      go_ret
      exact Hset.out 2 (-1) [x1, x2, -1] rfl rfl


/-- Rows that were drawn. -/
def RsD (B : Nat) (w : World) (v : Value) (n : Nat) (ts : List (List Int)) : Prop :=
  ∃ (g c : Nat) (cs : List Value), v = .slice (some ⟨g, 0, none⟩) n c ∧ n = ts.length ∧ w.ownsRow B 23 1 v n cs ∧ ∀ (k : Nat) (t : List Int), ts[k]? = some t → ∃ a1 c1, cs[k]? = some (.slice a1 t.length c1) ∧ w.ownsRow B 3 1 (.slice a1 t.length c1) t.length (ints t)

theorem RsD.slR {B : Nat} {w : World} {v : Value} {n : Nat} {ts : List (List Int)} (h : RsD B w v n ts) : ∃ g c, v = .slice (some ⟨g, 0, none⟩) n c ∧ SlR w (some ⟨g, 0, none⟩) n c ts := by
  obtain ⟨g, c, cs, rfl, hn, h3, h4⟩ := h
  have hcap : n ≤ c ∧ c ≤ maxLen := by
    rcases h3.2 with ⟨h, _⟩ | ⟨g', cap, cur, h, _, _, hm1, hm, _⟩
    · cases h
    · cases h
      exact ⟨hm1, hm⟩
  refine ⟨g, c, rfl, hn.symm, hcap.1, hcap.2, fun _ => ⟨g, 0, rfl, fun k t hk => ?_⟩⟩
  have hkn : k < n := by rw [hn]; exact (List.getElem?_eq_some_iff.1 hk).1
  obtain ⟨a1, c1, e1, o1⟩ := h4 k t hk
  refine ⟨a1, _, c1, ?_, Sl.of_own o1⟩
  rw [Nat.zero_add, h3.cellAt _ (by omega)]; exact e1

theorem RsD.kept {B : Nat} {w w' : World} {v : Value} {n : Nat} {ts : List (List Int)} (h : RsD B w v n ts) (hk : ∀ i, B ≤ i → i < w.heap.size → w'.heap[i]? = w.heap[i]?) : RsD B w' v n ts := by
  have key : ∀ {e size : Nat} {v : Value} {n : Nat} {xs : List Value}, w.ownsRow B e size v n xs → w'.ownsRow B e size v n xs := by
    intro e size v n xs ho
    refine ⟨ho.1, ?_⟩
    rcases ho.2 with h2 | ⟨g, cap, cur, hv, hg, hh, r⟩
    · exact .inl h2
    · exact .inr ⟨g, cap, cur, hv, hg, by rw [hk g hg (Array.getElem?_eq_some_iff.1 hh).1]; exact hh, r⟩
  obtain ⟨g, c, cs, rfl, hn, h3, h4⟩ := h
  refine ⟨g, c, cs, rfl, hn, key h3, fun k t ht => ?_⟩
  obtain ⟨a1, c1, e1, o1⟩ := h4 k t ht
  exact ⟨a1, c1, e1, key o1⟩
theorem RsD.rd {B g : Nat} {w w' : World} {v : Value} {n : Nat} {ts : List (List Int)} (h : RsD B w v n ts) (hg : w.grownBy w' (some g)) (hB : g < B) : RsD B w' v n ts :=
  h.kept (fun i h1 h2 => hg.block i h2 (fun e => by cases e; omega))
theorem RsD.below {B : Nat} {w w' : World} {v : Value} {n : Nat} {ts : List (List Int)} (h : RsD B w v n ts) (hb : Below w.heap.size w w') : RsD B w' v n ts :=
  h.kept (fun i _ h2 => hb.block i h2)
theorem RsD.mono {B B' : Nat} {w : World} {v : Value} {n : Nat} {ts : List (List Int)} (h : RsD B w v n ts) (hB : B' ≤ B) : RsD B' w v n ts := by
  obtain ⟨g, c, cs, rfl, hn, h3, h4⟩ := h
  refine ⟨g, c, cs, rfl, hn, Joins.ownsRow_le h3 hB, fun k t ht => ?_⟩
  obtain ⟨a1, c1, e1, o1⟩ := h4 k t ht
  exact ⟨a1, c1, e1, Joins.ownsRow_le o1 hB⟩

theorem own_types {w : World} {B e e' n n' c c' s s' g g' : Nat} {xs ys : List Value} (h : w.ownsRow B e s (.slice (some ⟨g, 0, none⟩) n c) n xs) (h' : w.ownsRow B e' s' (.slice (some ⟨g', 0, none⟩) n' c') n' ys) (he : e ≠ e') : g ≠ g' := by
  rintro rfl
  rcases h.2 with ⟨h1, _⟩ | ⟨_, _, _, h1, _, h3, _⟩
  · cases h1
  · rcases h'.2 with ⟨k1, _⟩ | ⟨_, _, _, k1, _, k3, _⟩
    · cases k1
    · cases h1
      cases k1
      rw [h3] at k3
      cases k3
      exact he rfl

/-- Behind the append of one more row. -/
theorem RsD.push {B go co i g8 c8 : Nat} {a1 : Option Addr} {c1 : Nat} {w w8 : World} {o : Obj} {ts : List (List Int)} {cs : List Value} {t : List Int} (hn : i = ts.length) (hcs : w.ownsRow B 23 1 (.slice (some ⟨go, 0, none⟩) i co) i cs)
    (h4 : ∀ (k : Nat) (t : List Int), ts[k]? = some t → ∃ a1 c1, cs[k]? = some (.slice a1 t.length c1) ∧ w.ownsRow B 3 1 (.slice a1 t.length c1) t.length (ints t)) (hg : (w.alloc o).grownBy w8 (some go))
    (ho : w8.ownsRow B 23 1 (.slice (some ⟨g8, 0, none⟩) (i + 1) c8) (i + 1) (cs ++ [.slice a1 t.length c1])) (hx : w.ownsRow B 3 1 (.slice a1 t.length c1) t.length (ints t)) :
    RsD B w8 (.slice (some ⟨g8, 0, none⟩) (i + 1) c8) (i + 1) (ts ++ [t]) := by
  have key : ∀ {a : Option Addr} {n c : Nat} {zs : List Value}, w.ownsRow B 3 1 (.slice a n c) n zs → w8.ownsRow B 3 1 (.slice a n c) n zs := by
    intro a n c zs hz
    refine (hz.alloc o).kept hg ?_
    rcases hz.2 with ⟨h1, _⟩ | ⟨g, cap, cur, h1, _⟩
    · cases h1; exact .inl rfl
    · cases h1
      exact .inr (fun e => own_types hz hcs (by decide) (Option.some.inj e))
  have hl : cs.length = i := by have := hcs.1; omega
  refine ⟨g8, c8, _, rfl, by rw [List.length_append, hn]; rfl, ho, fun k t' ht => ?_⟩
  by_cases hk : k < i
  · rw [List.getElem?_append_left (by omega)] at ht
    obtain ⟨b1, d1, e1, q1⟩ := h4 k t' ht
    exact ⟨b1, d1, by rw [List.getElem?_append_left (by omega)]; exact e1, key q1⟩
  · have hkn : k = i := by
      have h1 := (List.getElem?_eq_some_iff.1 ht).1
      rw [List.length_append, ← hn] at h1
      simp at h1
      omega
    subst hkn
    rw [List.getElem?_append_right (by omega), ← hn, Nat.sub_self] at ht
    simp at ht
    subst ht
    exact ⟨a1, c1, by rw [List.getElem?_append_right (by omega), hl, Nat.sub_self]; rfl, key hx⟩

/-- The loops over the ordinals. -/
def WoRel (w : World) (g P k : Nat) (v5 v6 : Value) (wr : World) : Prop :=
  ∃ (i : Nat) (ts : List (List Int)), v6 = .int .i64 i ∧ k + i = 3 ∧ (∀ t ∈ ts, t.length ≤ 1000) ∧ RsD w.heap.size wr v5 i ts ∧ RdOk wr g (P + 3000 * i) ∧ w.grownBy wr (some g)
/-- Ordinals that were drawn. -/
def WoDrw (w : World) (g : Nat) (e : Ending) (w' : World) : Prop :=
  ∃ (ts : List (List Int)) (v : Value) (n : Nat), e = .returned v ∧ RsD w.heap.size w' v n ts ∧ (∀ t ∈ ts, t.length ≤ 1000) ∧ n ≤ 3 ∧ w.grownBy w' (some g)

theorem RsD.two {B : Nat} {w : World} {g c n : Nat} {ts : List (List Int)} (h : RsD B w (.slice (some ⟨g, 0, none⟩) n c) n ts) (hn : 2 ≤ n) : RsD B w (.slice (some ⟨g, 0, none⟩) 2 c) 2 (ts.take 2) := by
  obtain ⟨g1, c1, cs, e, hl, ho, h4⟩ := h
  cases e
  refine ⟨g, c, cs.take (2 * 1), rfl, by rw [List.length_take]; omega, own_tak2 ho hn, fun k t ht => ?_⟩
  rw [List.getElem?_take] at ht
  split at ht
  · obtain ⟨a1, d1, e1, o1⟩ := h4 k t ht
    exact ⟨a1, d1, by rw [List.getElem?_take, if_pos (by omega)]; exact e1, o1⟩
  · cases ht

theorem num_len (n : Int) : (T.num' n).length ≤ 3 := by
  unfold T.num'
  split
  · decide
  · split <;> simp
theorem own_nil' {w : World} {B e s n c : Nat} {a : Option Addr} {xs : List Value} (h : w.ownsRow B e s (.slice a n c) n xs) : a = none → n = 0 ∧ c = 0 := by
  rintro rfl
  rcases h.2 with ⟨h1, _⟩ | ⟨_, _, _, h1, _⟩
  · cases h1; exact ⟨rfl, rfl⟩
  · cases h1

set_option maxHeartbeats 8000000 in
theorem l20Worth_any (g P : Nat) (w : World) (hP : P ≤ 70000000) (hrd : RdOk w g P) : Calls Try.prog 56 #[.pointer (some ⟨g, 0, none⟩)] w (WoDrw w g) := by
  obtain ⟨i0, hi, hz0, hz1, hz2⟩ := info_parts info_ints
  have hgl : g < w.heap.size := by obtain ⟨_, _, _, _, h1, _⟩ := hrd; exact (Array.getElem?_eq_some_iff.1 h1).1
  have k1 := Lib.hid (pick_any g P 3 w (by omega) (by decide) (by decide) hrd)
  clear hrd
  go_enter Try.func56, Try.ntmps56
  go_wp2_with fail
  refine (k1.out).mono ?_
  rintro ee w1 ⟨q, rfl, _, hr1, hg1⟩
  have hws1 := hg1.size
  have hst : WoRel w g (P + 1) 3 (.slice (some ⟨w1.heap.size, 0, none⟩) 0 0) (.int .i64 (0 : Nat)) (w1.alloc (.cells #[] 23)) :=
    ⟨0, [], rfl, rfl, (fun t ht => by cases ht), ⟨w1.heap.size, 0, [], rfl, rfl, Joins.ownsRow_le (World.ownsRow_lit (size := 1) w1 #[] 0 (Nat.le_refl _) (by simp [maxLen]) rfl) hws1, fun k t h => by simp at h⟩, hr1.kept (World.grownBy_alloc w1 _ none) (fun k e => by cases e), gs hg1 (World.grownBy_alloc w1 _ none) (fun k e => by cases e)⟩
  have Hst := Lib.hid hst
  clear hst hr1 hg1 hws1
  by_cases hq : 0 < q
  · go_wp2_with fail
    go_loopg [3, 4] 3 (fun k v5 v6 wr => WoRel w g (P + 1) k v5 v6 wr)
    case atStart => exact Hst.out
    case round =>
      obtain ⟨i, ts, rfl, hki, hlen, hT, hr, hg⟩ := hrel
      obtain ⟨go', co, cs, rfl, hn, ho, h4⟩ := hT
      have Hki := Lib.hid hki
      have Hlen := Lib.hid hlen
      have Hn := Lib.hid hn
      have Ho := Lib.hid ho
      have H4 := Lib.hid h4
      have Hr := Lib.hid hr
      have Hg := Lib.hid hg
      have hi3 : i ≤ 3 := by omega
      have hws := hg.size
      have hgo := (ho.lt go' rfl).1
      clear hki hlen hn ho h4 hr hg
      by_cases hlt : i < 3
      · have hi2 : 0 ≤ (2 : Int) - i := by omega
        have kO := Lib.hid (spec_OrdOf ((2 : Int) - i) wr (by omega) (by omega))
        go_wp2_with fail
        refine (kO.out).mono ?_
        rintro ee w3 ⟨a3, c3, rfl, ho3, hb3⟩
        have kP := Lib.hid (spec_OrdPower a3 (T.num' ((2 : Int) - i)).length c3 (T.num' ((2 : Int) - i)) w3 (by have := num_len ((2 : Int) - i); omega) (own_nil' ho3) (Sl.of_own ho3))
        obtain ⟨x, hx⟩ : ∃ x, x = T.powRow (T.num' ((2 : Int) - i)) := ⟨_, rfl⟩
        obtain ⟨xo, hxo⟩ : ∃ x, x = T.powOk (T.num' ((2 : Int) - i)) := ⟨_, rfl⟩
        rw [← hx, ← hxo] at kP
        have Hx := Lib.hid (show x.length ≤ 1000 by rw [hx]; exact T.powRow_len _)
        have Hb3 := Lib.hid hb3
        clear ho3 hb3 hx hxo
        go_wp2_with fail
        refine (kP.out).mono ?_
        rintro ee w4 ⟨a4, c4, rfl, ho4, hb4⟩
        have hb34 := Hb3.out.trans (hb4.mono Hb3.out.size)
        have hg34 := below_grown hb34 (some g)
        have HO4 := Lib.hid (ownsRow_below' Ho.out hb34)
        have HX4 := Lib.hid (Joins.ownsRow_le ho4 (Nat.le_trans hws Hb3.out.size))
        have H44 := Lib.hid (show ∀ (k : Nat) (t : List Int), ts[k]? = some t → ∃ a1 c1, cs[k]? = some (.slice a1 t.length c1) ∧ w4.ownsRow w.heap.size 3 1 (.slice a1 t.length c1) t.length (ints t) from fun k t ht => by obtain ⟨a1, c1, e1, o1⟩ := H4.out k t ht; exact ⟨a1, c1, e1, ownsRow_below' o1 hb34⟩)
        have Hr4 := Lib.hid (Hr.out.kept (below_grown hb34 none) (fun k e => by cases e))
        have Hg4 := Lib.hid (grownBy_trans Hg.out hg34)
        have hw4 : w.heap.size ≤ w4.heap.size := Hg4.out.size
        clear ho4 hb4 hb34 hg34
        go_wp2_with (first
          | (at_builtin; refine wpList_append_own _ rfl (.tmp 24) (.tmp 26) 40 rfl w.heap.size 23 i0 (.slice none 0 0) 1 24 Try.underlying40 hi hz0 hz1 hz2 rfl (by decide) _ i cs rfl (HO4.out.alloc _) ⟨w4.heap.size, 0, none⟩ 1 1 [.slice a4 x.length c4] rfl rfl (cell_one_new _ _ _) (slice_oneCell _ _ _) (by unfold maxLen; omega) (by omega) (by simp; omega) ?_; intro v8 w8 ho8 hg8 _))
        obtain ⟨g8, c8, rfl⟩ := Joins.ownsRow_form ho8 (by omega)
        have hfin : WoRel w g (P + 1) (gk - 1) (.slice (some ⟨g8, 0, none⟩) (i + 1) c8) (.int .i64 ((i : Int) + 1)) w8 := by
          have hgB := World.grownBy_alloc w4 (.cells #[.slice a4 x.length c4] 23) (none : Option Nat)
          refine ⟨i + 1, ts ++ [x], by go_num, by have := Hki.out; omega, fun t ht => ?_, RsD.push Hn.out HO4.out H44.out hg8 ho8 HX4.out, ?_, gs (gs Hg4.out hgB (fun k e => by cases e)) hg8 (fun k e => by cases e; exact hgo)⟩
          · rcases List.mem_append.1 ht with h | h
            · exact Hlen.out t h
            · simp at h
              subst h
              exact Hx.out
          · exact ((Hr4.out.kept hgB (fun k e => by cases e)).kept hg8 (fun k e => by cases e; exact Nat.lt_of_lt_of_le hgl hgo)).mono (by omega)
        have Hfin := Lib.hid hfin
        clear hfin ho8 hg8 hgo
        go_wp2_with fail
        go_roundg (gk - 1)
        case measure => have := Hki.out; omega
        case rel => exact Hfin.out
      · obtain rfl : i = 3 := by omega
        have HF := Lib.hid (show WoDrw w g (.returned (.slice (some ⟨go', 0, none⟩) 3 co)) wr from ⟨ts, _, 3, rfl, ⟨go', co, cs, rfl, Hn.out, Ho.out, H4.out⟩, Hlen.out, by decide, Hg.out⟩)
        go_wp2_with fail
        go_ret
        exact HF.out
  · go_wp2_with fail
    go_loopg [7, 8] 3 (fun k v5 v6 wr => WoRel w g (P + 1) k v5 v6 wr)
    case atStart => exact Hst.out
    case round =>
      obtain ⟨i, ts, rfl, hki, hlen, hT, hr, hg⟩ := hrel
      obtain ⟨go', co, cs, rfl, hn, ho, h4⟩ := hT
      have Hki := Lib.hid hki
      have Hlen := Lib.hid hlen
      have Hn := Lib.hid hn
      have Ho := Lib.hid ho
      have H4 := Lib.hid h4
      have Hr := Lib.hid hr
      have Hg := Lib.hid hg
      have hi3 : i ≤ 3 := by omega
      have hws := hg.size
      have hgo := (ho.lt go' rfl).1
      clear hki hlen hn ho h4 hr hg
      by_cases hlt : i < 3
      · have kL := Lib.hid (l20Little_any g (P + 1 + 3000 * i) 14 wr (by omega) (by decide) (by decide) Hr.out)
        go_wp2_with fail
        refine (kL.out).mono ?_
        rintro ee w4 ⟨x, g4, n4, c4, hn4, rfl, ho4, hl4, hr4, hg4⟩
        subst hn4
        have HO4 := Lib.hid (own_rd Ho.out hg4 hgl)
        have HX4 := Lib.hid (Joins.ownsRow_le ho4 hws)
        have H44 := Lib.hid (show ∀ (k : Nat) (t : List Int), ts[k]? = some t → ∃ a1 c1, cs[k]? = some (.slice a1 t.length c1) ∧ w4.ownsRow w.heap.size 3 1 (.slice a1 t.length c1) t.length (ints t) from fun k t ht => by obtain ⟨a1, c1, e1, o1⟩ := H4.out k t ht; exact ⟨a1, c1, e1, own_rd o1 hg4 hgl⟩)
        have Hr4 := Lib.hid hr4
        have Hx := Lib.hid (show x.length ≤ 1000 by omega)
        have Hg4 := Lib.hid (grownBy_trans Hg.out hg4)
        have hw4 : w.heap.size ≤ w4.heap.size := Hg4.out.size
        clear ho4 hl4 hr4 hg4
        go_wp2_with (first
          | (at_builtin; refine wpList_append_own _ rfl (.tmp 34) (.tmp 37) 40 rfl w.heap.size 23 i0 (.slice none 0 0) 1 24 Try.underlying40 hi hz0 hz1 hz2 rfl (by decide) _ i cs rfl (HO4.out.alloc _) ⟨w4.heap.size, 0, none⟩ 1 1 [.slice (some ⟨g4, 0, none⟩) x.length c4] rfl rfl (cell_one_new _ _ _) (slice_oneCell _ _ _) (by unfold maxLen; omega) (by omega) (by simp; omega) ?_; intro v8 w8 ho8 hg8 _))
        obtain ⟨g8, c8, rfl⟩ := Joins.ownsRow_form ho8 (by omega)
        have hfin : WoRel w g (P + 1) (gk - 1) (.slice (some ⟨g8, 0, none⟩) (i + 1) c8) (.int .i64 ((i : Int) + 1)) w8 := by
          have hgB := World.grownBy_alloc w4 (.cells #[.slice (some ⟨g4, 0, none⟩) x.length c4] 23) (none : Option Nat)
          refine ⟨i + 1, ts ++ [x], by go_num, by have := Hki.out; omega, fun t ht => ?_, RsD.push Hn.out HO4.out H44.out hg8 ho8 HX4.out, ?_, gs (gs Hg4.out hgB (fun k e => by cases e)) hg8 (fun k e => by cases e; exact hgo)⟩
          · rcases List.mem_append.1 ht with h | h
            · exact Hlen.out t h
            · simp at h
              subst h
              exact Hx.out
          · exact ((Hr4.out.kept hgB (fun k e => by cases e)).kept hg8 (fun k e => by cases e; exact Nat.lt_of_lt_of_le hgl hgo)).mono (by omega)
        have Hfin := Lib.hid hfin
        clear hfin ho8 hg8 hgo
        go_wp2_with fail
        go_roundg (gk - 1)
        case measure => have := Hki.out; omega
        case rel => exact Hfin.out
      · obtain rfl : i = 3 := by omega
        have kO := Lib.hid (odd_any g (P + 1 + 3000 * 3) 14 wr (by omega) (by decide) (by decide) Hr.out)
        have HT := Lib.hid (show RsD w.heap.size wr (.slice (some ⟨go', 0, none⟩) 3 co) 3 ts from ⟨go', co, cs, rfl, Hn.out, Ho.out, H4.out⟩)
        go_wp2_with fail
        refine (kO.out).mono ?_
        rintro ee w4 ⟨b, rfl, _, hg4⟩
        have HT4 := Lib.hid (HT.out.rd hg4 hgl)
        have Hg4 := Lib.hid (grownBy_trans Hg.out hg4)
        have hco : (3 : Int) ≤ co := by
          obtain ⟨gg, cc, e9, hs⟩ := HT4.out.slR
          cases e9
          have := hs.2.1
          omega
        clear hg4
        cases b with
        | false =>
          go_wp2_with fail
          go_ret
          exact ⟨ts, _, 3, rfl, HT4.out, Hlen.out, by decide, Hg4.out⟩
        | true =>
          go_wp2_with fail
          go_ret
          exact ⟨ts.take 2, _, 2, rfl, HT4.out.two (by decide), fun t ht => Hlen.out t (List.mem_of_mem_take ht), by decide, Hg4.out⟩

/-- Heaps and ordinals that were drawn. -/
def HoDraw (w : World) (e : Ending) (w' : World) : Prop :=
  ∃ (xs : List Int) (g n c : Nat) (ts : List (List Int)) (v : Value) (m : Nat), n = xs.length ∧ e = .returned (.tuple #[.slice (some ⟨g, 0, none⟩) n c, v]) ∧ w'.ownsRow w.heap.size 3 1 (.slice (some ⟨g, 0, none⟩) n c) n (ints xs) ∧ n ≤ 3 ∧ RsD w.heap.size w' v m ts ∧ (∀ t ∈ ts, t.length ≤ 1000) ∧ m ≤ 3 ∧ Below w.heap.size w w'

set_option maxHeartbeats 2000000 in
theorem drawHeapsOrd_any (a : Option Addr) (len cap : Nat) (w : World) (h : By w a len cap) : Calls Try.prog 27 #[.slice a len cap] w (HoDraw w) := by
  have k0 := Lib.hid (open_any a len cap w h)
  obtain ⟨g, hg⟩ : ∃ g, g = w.heap.size := ⟨_, rfl⟩
  rw [← hg] at k0
  have Hg := Lib.hid hg
  clear hg h
  go_enter Try.func27, Try.ntmps27
  go_wp2_with fail
  refine (k0.out).mono ?_
  rintro ee w1 ⟨rfl, hr1, hb1⟩
  have k1 := Lib.hid (l20Heaps_any g 0 12 w1 (by decide) (by decide) (by decide) hr1)
  have Hgl := Lib.hid (show g < w1.heap.size by obtain ⟨_, _, _, _, h9, _⟩ := hr1; exact (Array.getElem?_eq_some_iff.1 h9).1)
  have Hb1 := Lib.hid hb1
  clear hr1 hb1
  go_wp2_with fail
  refine (k1.out).mono ?_
  rintro ee w2 ⟨xs, g', n, c, hn, rfl, ho, hl, hr2, hg2⟩
  have k2 := Lib.hid (l20Worth_any g (0 + 10) w2 (by decide) hr2)
  have Hn := Lib.hid hn
  have Ho := Lib.hid ho
  have Hg2 := Lib.hid hg2
  clear hn ho hr2 hg2
  go_wp2_with fail
  refine (k2.out).mono ?_
  rintro ee w3 ⟨ts, v, m, rfl, hT, hlen, hm, hg3⟩
  have hs1 : w.heap.size ≤ w1.heap.size := by have := Hb1.out.size; exact this
  have HF := Lib.hid (show HoDraw w (.returned (.tuple #[.slice (some ⟨g', 0, none⟩) n c, v])) w3 from ⟨xs, g', n, c, ts, v, m, Hn.out, rfl, Joins.ownsRow_le (own_rd Ho.out hg3 Hgl.out) hs1, hl, hT.mono (Nat.le_trans hs1 Hg2.out.size), hlen, hm, by
    have h1 := Hb1.out
    have h2 := Hg2.out
    rw [Hg.out] at h1 h2 hg3
    exact (h1.grown h2 h1.size (fun k e => by cases e; exact Nat.le_refl _)).grown hg3 (Nat.le_trans h1.size h2.size) (fun k e => by cases e; exact Nat.le_refl _)⟩)
  clear hT hlen hm hg3
  go_wp2_with fail
  go_ret2
  exact HF.out

end Go.Proofs.Ytgcdbndnpcfcnaa

/- LFnHeapsOrd -/
/- FnHeapsOrd: the walk of the law. -/
namespace Go.Proofs.Ytgcdbndnpcfcnaa
set_option maxRecDepth 100000
open Go.RowKit

theorem more_set (xs : List Int) (k : Nat) : (ints xs).set k (.int .i64 (xs.getD k 0 + 1)) = ints (moreH xs k) := by simp [ints, moreH, List.map_set]

set_option maxHeartbeats 8000000 in
theorem fnHeapsOrd_walk (a : Option Addr) (len cap : Nat) (w : World) (h : By w a len cap) :
    Calls Try.prog 7 #[.slice a len cap] w fun e w' => e = .returned (.bool true) ∧ Below w.heap.size w w' := by
  have hlm : len ≤ 9223372036854775807 := by have := h.1; have := h.2.1; unfold maxLen at this; omega
  by_cases hbig : 1048576 < len
  · clear h
    go_enter Try.func7, Try.ntmps7
    go_wp2_with fail
    go_ret
    exact ⟨rfl, Below.refl _ _⟩
  have k0 := Lib.hid (drawHeapsOrd_any a len cap w h)
  clear h
  obtain ⟨i0, hi, hz0, hz1, hz2⟩ := info_parts info_int
  go_enter Try.func7, Try.ntmps7
  go_wp2_with fail
  refine (k0.out).mono ?_
  rintro ee w1 ⟨xs, g, n, c, os, v, m, hn, rfl, ho, hl, hT, hlen, hm, hb0⟩
  obtain ⟨go', co, rfl, hS⟩ := hT.slR
  obtain ⟨r, hr⟩ : ∃ r, r = hordR xs os := ⟨_, rfl⟩
  obtain ⟨o, hoo⟩ : ∃ o, o = hordB xs os := ⟨_, rfl⟩
  have hrl : r.length ≤ 60 := by rw [hr]; exact hordR_le xs os
  have k1 := Lib.hid (impl_HeapsOrd (some ⟨g, 0, none⟩) n c xs (some ⟨go', 0, none⟩) m co os w1 (by omega) (by omega) (Sl.of_own ho) hS)
  unfold TdPost at k1
  rw [← hr, ← hoo] at k1
  have Hr := Lib.hid hr
  have Ho := Lib.hid hoo
  have Hn := Lib.hid hn
  have X0 := Lib.hid (Sl.of_own ho)
  have S0 := Lib.hid hS
  have Hb0 := Lib.hid hb0
  clear hr hoo hn ho hT hlen hS hb0
  go_wp2_with fail
  refine (k1.out).mono ?_
  rintro ee w2 ⟨aX, cX, rfl, hoX, hb2⟩
  have X2 := Lib.hid (X0.out.below hb2)
  have S2 := Lib.hid (S0.out.below hb2)
  have Hb2 := Lib.hid (Hb0.out.trans (hb2.mono Hb0.out.size))
  have R2 := Lib.hid (Sl.of_own hoX)
  have k2 := Lib.hid (spec_HeapsOrd (some ⟨g, 0, none⟩) n c xs (some ⟨go', 0, none⟩) m co os w2 (by omega) X2.out S2.out)
  unfold TdPost at k2
  rw [← Hr.out, ← Ho.out] at k2
  clear hb2 hoX
  go_wp2_with fail
  refine (k2.out).mono ?_
  rintro ee w3 ⟨aY, cY, rfl, hoY, hb3⟩
  have X3 := Lib.hid (X2.out.below hb3)
  have S3 := Lib.hid (S2.out.below hb3)
  have R3 := Lib.hid (R2.out.below hb3)
  have Hb3 := Lib.hid (Hb2.out.trans (hb3.mono Hb2.out.size))
  have hne : (o != o) = false := by simp
  have k3 := Lib.hid (sameInts_any aX aY r.length cX r.length cY r r w3 (by omega) R3.out (Sl.of_own hoY))
  rw [eqB_refl] at k3
  clear hb3 hoY
  go_wp2_with fail
  refine (k3.out).mono ?_
  rintro ee w4 ⟨rfl, hb4⟩
  have X4 := Lib.hid (X3.out.below hb4)
  have S4 := Lib.hid (S3.out.below hb4)
  have R4 := Lib.hid (R3.out.below hb4)
  have Hb4 := Lib.hid (Hb3.out.trans (hb4.mono Hb3.out.size))
  clear hb4
  cases o with
  | false =>
    have hrN : r = [] := by rw [Hr.out]; exact hordR_no Ho.out.symm
    subst hrN
    have k5 := Lib.hid (alive_any w4)
    go_wp2_with fail
    refine (k5.out).mono ?_
    rintro ee w5 ⟨rfl, hb5⟩
    have Hb5 := Lib.hid (Hb4.out.trans (hb5.mono Hb4.out.size))
    clear hb5
    go_wp2_with fail
    go_ret
    exact ⟨rfl, Hb5.out⟩
  | true =>
    obtain ⟨hv1, hv2, hv3⟩ := hord_parts Ho.out.symm
    have Hh := Lib.hid hv1
    have Hw := Lib.hid hv2
    obtain rfl : n = 3 := by rw [Hn.out]; exact (listB_true.1 hv1).1
    clear hv1 hv2 hv3
    go_wp2_with fail
    go_loopg [9] 3 (fun gk i wr => ∃ (k : Nat), gk + k = 3 ∧ i = .int .i64 k ∧ Below w4.heap.size w4 wr)
    case atStart => exact ⟨0, rfl, rfl, Below.refl _ _⟩
    case round =>
      obtain ⟨k, hgk, rfl, hbel⟩ := hrel
      have Hgk := Lib.hid hgk
      have hk3 : k ≤ 3 := by omega
      have Hbel := Lib.hid hbel
      clear hgk hbel
      by_cases hlt : k < 3
      · have hl3 : xs.length = 3 := Hn.out.symm
        have hX := X4.out.below Hbel.out
        obtain ⟨bx, ox, ex, hatx⟩ := hX.2.2.2 (by decide)
        cases ex
        have HLn := Lib.hid (show (ints xs).length = 3 * 1 by rw [ints_len]; exact hl3)
        have HN := Lib.hid (show ∀ j u, (ints xs)[j]? = some u → (wr.alloc (.cells #[] 3)).cell? ((⟨g, 0, none⟩ : Addr).add j) = some u by
          intro j u hj
          have hjl := (List.getElem?_eq_some_iff.1 hj).1
          rw [ints_len] at hjl
          rw [ints_get xs j hjl] at hj
          cases hj
          rw [Addr.add_lit, ((Below.refl wr.heap.size wr).alloc (Nat.le_refl _) (.cells #[] 3)).cell (hatx.lt (by intro h'; rw [h'] at hl3; simp at hl3))]
          exact hatx j hjl)
        have HO := Lib.hid (World.ownsRow_lit (base := wr.heap.size) (e := 3) (size := 1) wr #[] 0 (Nat.le_refl _) (by simp [maxLen]) rfl)
        have hxb := listB_get Hh.out hlt
        clear hatx hX hl3
        go_upto_region 14 with (first
          | (at_builtin; refine wpList_append_own _ rfl (.tmp 56) (.tmp 57) 23 rfl wr.heap.size 3 i0 (.int .i64 0) 1 8 Try.underlying23 hi hz0 hz1 hz2 rfl (by decide) _ 0 [] rfl HO.out ⟨g, 0, none⟩ 3 c (ints xs) rfl HLn.out HN.out (ints_oneCell _ xs) (by unfold maxLen; omega) (by omega) (by simp) ?_; intro v2 w5 ho5 hg5 _; rw [Nat.zero_add] at ho5; obtain ⟨g5, c5, rfl⟩ := Joins.ownsRow_form ho5 (by omega)))
        have ho5' : w5.ownsRow wr.heap.size 3 1 (.slice (some ⟨g5, 0, none⟩) 3 c5) 3 (ints xs) := by simpa using ho5
        have hb5 : Below wr.heap.size wr w5 := ((Below.refl wr.heap.size wr).alloc (Nat.le_refl _) _).grown hg5 (by simp) (fun r e => (HO.out.lt r e).1)
        obtain ⟨x, hx⟩ : ∃ x, x = xs.getD k 0 := ⟨_, rfl⟩
        have hc5 : w5.cell? ⟨g5, k, none⟩ = some (.int .i64 x) := by rw [ho5'.cellAt k (by omega), ints_get xs k (by rw [← Hn.out]; exact hlt), hx]
        have hf5 := ho5'.frozenAt k
        have hst := (ho5'.stored k (.int .i64 (x + 1))).1
        rw [hx, more_set xs k, ← hx] at hst
        rw [← hx] at hxb
        have hx0 := hxb.1
        have hx1 := hxb.2
        obtain ⟨W6, hW6⟩ : ∃ W, w5.setCell ⟨g5, k, none⟩ (.int .i64 (x + 1)) = W := ⟨_, rfl⟩
        have hb6 : Below wr.heap.size wr W6 := by rw [← hW6]; exact hb5.setCell (p := ⟨g5, k, none⟩) (ho5'.lt g5 rfl).1 _
        rw [hW6] at hst
        have Hb6 := Lib.hid (Hbel.out.trans (hb6.mono Hbel.out.size))
        have kM := Lib.hid (impl_HeapsOrd (some ⟨g5, 0, none⟩) 3 c5 (moreH xs k) (some ⟨go', 0, none⟩) m co os W6 (by omega) (by omega) (Sl.of_own hst) (S4.out.below Hb6.out))
        unfold TdPost at kM
        obtain ⟨rm, hrm⟩ : ∃ r, r = hordR (moreH xs k) os := ⟨_, rfl⟩
        obtain ⟨om, hom⟩ : ∃ o, o = hordB (moreH xs k) os := ⟨_, rfl⟩
        rw [← hrm, ← hom] at kM
        have Hrm := Lib.hid hrm
        have Hom := Lib.hid hom
        clear ho5 ho5' hg5 hb5 hb6 hst hx hxb hrm hom
        go_wp2_with fail
        refine (kM.out).mono ?_
        rintro ee w7 ⟨aM, cM, rfl, hoM, hb7⟩
        have Hb7 := Lib.hid (Hb6.out.trans (hb7.mono Hb6.out.size))
        have M7 := Lib.hid (Sl.of_own hoM)
        clear hoM hb7 hc5 hf5 hW6
        cases om with
        | false =>
          go_wp2_with fail
          go_roundg (gk - 1)
          case measure => have := Hgk.out; omega
          case rel => exact ⟨k + 1, by have := Hgk.out; omega, by go_num, Hb7.out⟩
        | true =>
          have hcm := hord_more hlt Ho.out.symm Hom.out.symm
          rw [← Hrm.out, ← Hr.out] at hcm
          have kC := Lib.hid (impl_OrdCompare aM aX rm.length cM r.length cX rm r w7 M7.out (R4.out.below Hb7.out))
          obtain ⟨cv, hcv⟩ : ∃ x, x = T.cmpRow rm r := ⟨_, rfl⟩
          rw [← hcv] at kC hcm
          clear hcv
          go_wp2_with fail
          refine (kC.out).mono ?_
          rintro ee w8 ⟨rfl, hb8⟩
          have Hb8 := Lib.hid (Hb7.out.trans (hb8.mono Hb7.out.size))
          clear hb8
          go_wp2_with fail
          go_roundg (gk - 1)
          case measure => have := Hgk.out; omega
          case rel => exact ⟨k + 1, by have := Hgk.out; omega, by go_num, Hb8.out⟩
      · obtain rfl : k = 3 := by omega
        have hz := hord_zero Hw.out
        have hv : T.vldB r = true := by rw [Hr.out]; exact ordN_vld (hord_parts Ho.out.symm).2.2
        have Hv := Lib.hid hv
        clear hv
        go_wp2_with (first
          | (at_make; refine wpList_make_full _ rfl (.const (.int .i64 3)) (.const (.int .i64 3)) 23 rfl wr.heap.size 3 i0 _ 1 Try.underlying23 hi hz0 hz1 .i64 .i64 _ _ 3 rfl rfl rfl rfl (by rw [hz2]; omega) (by unfold maxLen; omega) (Nat.le_refl _) ?_; intro wm hown hgm))
        have hbm := (Below.refl wr.heap.size wr).grown hgm (Nat.le_refl _) (fun k hk => by cases hk)
        have hom : wm.ownsRow wr.heap.size 3 1 (.slice (some ⟨wr.heap.size, 0, none⟩) 3 3) 3 (ints [0, 0, 0]) := by
          rw [show 3 * 1 = 3 from rfl, show (Value.int .i64 0).cells = #[Value.int .i64 0] from rfl, toList_madeCells_one] at hown
          exact hown
        have Hbm := Lib.hid (Hbel.out.trans (hbm.mono Hbel.out.size))
        have kZ := Lib.hid (impl_HeapsOrd (some ⟨wr.heap.size, 0, none⟩) 3 3 [0, 0, 0] (some ⟨go', 0, none⟩) m co os wm (by omega) (by omega) (Sl.of_own hom) (S4.out.below Hbm.out))
        unfold TdPost at kZ
        rw [hz.1, hz.2] at kZ
        clear hown hgm hbm hom hz
        go_wp2_with fail
        refine (kZ.out).mono ?_
        rintro ee w9 ⟨aZ, cZ, rfl, hoZ, hb9⟩
        have Hb9 := Lib.hid (Hbm.out.trans (hb9.mono Hbm.out.size))
        have Z9 := Lib.hid (Sl.of_own hoZ)
        have kV := Lib.hid (impl_OrdValid aX r.length cX r w9 (R4.out.below Hb9.out))
        rw [Hv.out] at kV
        clear hoZ hb9
        go_wp2_with fail
        refine (kV.out).mono ?_
        rintro ee w10 ⟨rfl, hb10⟩
        have Hb10 := Lib.hid (Hb9.out.trans (hb10.mono Hb9.out.size))
        obtain ⟨W11, hW11⟩ : ∃ W, w10.alloc (.cells #[.int .i64 0] 3) = W := ⟨_, rfl⟩
        have hb11 : Below w10.heap.size w10 W11 := by rw [← hW11]; exact (Below.refl _ _).alloc (Nat.le_refl _) _
        have h11 : W11.ownsRow w10.heap.size 3 1 (.slice (some ⟨w10.heap.size, 0, none⟩) 1 1) 1 (ints [0]) := by rw [← hW11]; exact World.ownsRow_lit w10 #[.int .i64 0] 1 (Nat.le_refl _) (by simp [maxLen]) rfl
        have kS := Lib.hid (sameInts_any aZ (some ⟨w10.heap.size, 0, none⟩) 1 cZ 1 1 [0] [0] W11 (by omega) ((Z9.out.below hb10).below hb11) (Sl.of_own h11))
        rw [eqB_refl] at kS
        have Hb11 := Lib.hid (Hb10.out.trans (hb11.mono Hb10.out.size))
        clear hb10 hb11 h11
        go_wp2_with fail
        refine (kS.out).mono ?_
        rintro ee w12 ⟨rfl, hb12⟩
        have Hb12 := Lib.hid (Hb4.out.trans ((Hb11.out.trans (hb12.mono Hb11.out.size)).mono Hb4.out.size))
        clear hb12
        go_wp2_with fail
        go_ret
        exact ⟨rfl, Hb12.out⟩

end Go.Proofs.Ytgcdbndnpcfcnaa
