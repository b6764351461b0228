/- FnGLeastAll: one text out of GrowM, IterM, GrowS, IterI, GrowI, LeastM, LeastS, LeastI, LeastJ, LeastK, LeastE, DrawIt, LFnGrowLeast. -/
import Derived.Test.YthalogciiochfaaStepsD
import Derived.Test.YthalogciiochfaaSteps
import Derived.Test.YthalogciiochfaaMark
import Derived.Test.YthalogciiochfaaStepS
import Derived.Test.YthalogciiochfaaStepsL
import Derived.Test.YthalogciiochfaaLeaf
import Derived.RangeFuncNested
import Derived.Maps.AppendAt
import Derived.OwnWalk
import Derived.Test.YthalogciiochfaaAdd
import Derived.Test.YthalogciiochfaaAddS
import Derived.Test.YthalogciiochfaaAddI
import Derived.Test.YthalogciiochfaaAddJ
import Derived.Deep.RegionHeld3
import Derived.Test.YthalogciiochfaaRange
import Derived.RangeFuncBox
import Derived.Shelf.Abstract
import Derived.TacticsInMore
import Derived.LoopNIn
import Derived.LoopIn
import Derived.Test.YthalogciiochfaaDraw2
import Derived.Test.YthalogciiochfaaFn1
/- GrowM -/
/- Growth along ordinals, on trees: the number that is reached, and how many steps it takes. -/
namespace Go.Proofs.Ythalogciiochfaa
set_option maxRecDepth 100000
namespace T

/-- Grow: in at most g steps. -/
noncomputable def rise : Nat → Nat → T → Option (Nat × Nat)
  | _, n, z => some (n, 0)
  | 0, _, c _ _ _ => none
  | g + 1, n, c m e r =>
    if vldB ((c m e r).step n).enc = true ∧ ((c m e r).kind = 1 → n < 90) then
      (rise g (if (c m e r).kind = 1 then n + 1 else n) ((c m e r).step n)).map (fun p => (p.1, p.2 + 1)) else none
theorem rise_z (g n : Nat) : rise g n z = some (n, 0) := by cases g <;> rfl
theorem rise_0 (n : Nat) {t : T} (h : t ≠ z) : rise 0 n t = none := by
  cases t with
  | z => exact absurd rfl h
  | c m e r => rfl
theorem rise_s (g n : Nat) {t : T} (h : t ≠ z) : rise (g + 1) n t = if vldB (t.step n).enc = true ∧ (t.kind = 1 → n < 90) then
      (rise g (if t.kind = 1 then n + 1 else n) (t.step n)).map (fun p => (p.1, p.2 + 1)) else none := by
  cases t with
  | z => exact absurd rfl h
  | c m e r => rfl

theorem rise_bnd {g n : Nat} {t : T} {p : Nat × Nat} (h : rise g n t = some p) : n ≤ p.1 ∧ p.2 ≤ g ∧ (n ≤ 90 → p.1 ≤ 90) := by
  induction g generalizing n t p with
  | zero =>
    cases t with
    | z => rw [rise_z] at h; injection h with h; subst h; exact ⟨Nat.le_refl _, Nat.le_refl _, fun h => h⟩
    | c m e r => rw [rise_0 n (by simp)] at h; cases h
  | succ g ih =>
    cases t with
    | z => rw [rise_z] at h; injection h with h; subst h; exact ⟨Nat.le_refl _, Nat.zero_le _, fun h => h⟩
    | c m e r =>
      rw [rise_s g n (by simp)] at h
      split at h
      · rename_i hc
        cases hd : rise g (if (c m e r).kind = 1 then n + 1 else n) ((c m e r).step n) with
        | none => rw [hd] at h; cases h
        | some q =>
          rw [hd] at h
          simp only [Option.map_some, Option.some.injEq] at h
          obtain ⟨i1, i2, i3⟩ := ih hd
          subst h
          dsimp only
          split at i1
          · rename_i hk
            have := hc.2 hk
            rw [if_pos hk] at i3
            exact ⟨by omega, by omega, fun h9 => i3 (by omega)⟩
          · rename_i hk
            rw [if_neg hk] at i3
            exact ⟨by omega, by omega, fun h9 => i3 (by omega)⟩
      · cases h

/-- What a walk still has to do, told from where it began. -/
def riseFrom (R : Option (Nat × Nat)) (s g n : Nat) (t : T) : Prop := R = (rise g n t).map (fun p => (p.1, p.2 + s))
theorem riseFrom.next {R : Option (Nat × Nat)} {s g n : Nat} {t : T} (h : riseFrom R s (g + 1) n t) (ht : t ≠ z) (hv : vldB (t.step n).enc = true) :
    (t.kind = 1 → n < 90 → riseFrom R (s + 1) g (n + 1) (t.step n)) ∧ (t.kind ≠ 1 → riseFrom R (s + 1) g n (t.step n)) := by
  unfold riseFrom at *
  rw [rise_s g n ht] at h
  constructor
  · intro hk hn
    rw [if_pos ⟨hv, fun _ => hn⟩, if_pos hk] at h
    rw [h, Option.map_map]
    congr 1
    funext p
    simp only [Function.comp, Prod.mk.injEq]
    exact ⟨trivial, by omega⟩
  · intro hk
    rw [if_pos ⟨hv, fun h => absurd h hk⟩, if_neg hk] at h
    rw [h, Option.map_map]
    congr 1
    funext p
    simp only [Function.comp, Prod.mk.injEq]
    exact ⟨trivial, by omega⟩
theorem riseFrom.bad {R : Option (Nat × Nat)} {s g n : Nat} {t : T} (h : riseFrom R s g n t) (ht : t ≠ z) (hb : g = 0 ∨ vldB (t.step n).enc = false ∨ (t.kind = 1 ∧ 90 ≤ n)) : R = none := by
  unfold riseFrom at h
  cases g with
  | zero => rw [h, rise_0 n ht]; rfl
  | succ g =>
    rw [h, rise_s g n ht, if_neg]
    · rfl
    · rintro ⟨h1, h2⟩
      rcases hb with hb | hb | ⟨hb1, hb2⟩
      · cases hb
      · rw [h1] at hb; cases hb
      · have := h2 hb1; omega
theorem riseFrom.done {R : Option (Nat × Nat)} {s g n : Nat} {t : T} (h : riseFrom R s g n t) (ht : t = z) : R = some (n, s) := by
  unfold riseFrom at h
  rw [h, ht, rise_z]
  simp
theorem riseFrom.start (g n : Nat) (t : T) : riseFrom (rise g n t) 0 g n t := by
  unfold riseFrom
  cases rise g n t <;> rfl

noncomputable def growP (xs : List Int) (n : Int) : Option (Nat × Nat) := if vldB xs = true ∧ 1 ≤ n ∧ n ≤ 90 then rise 3000 n.toNat (of xs) else none
def endI : Option (Nat × Nat) → Int
  | some p => (p.1 : Int)
  | none => -1
def stairsI : Option (Nat × Nat) → Int
  | some p => (p.2 : Int)
  | none => -1
noncomputable def growE (xs : List Int) (n : Int) : Int := endI (growP xs n)
noncomputable def growS (xs : List Int) (n : Int) : Int := stairsI (growP xs n)
/-- The numbers from a on, so many. -/
def up (a k : Nat) : List Int := (List.range k).map (fun j => ((a + j : Nat) : Int))
theorem up_len (a k : Nat) : (up a k).length = k := by simp [up]
theorem up_snoc (a k : Nat) : up a k ++ [((a + k : Nat) : Int)] = up a (k + 1) := by simp [up, List.range_succ]
def pathI (n : Nat) : Option (Nat × Nat) → List Int
  | some p => up n (p.1 + 1 - n)
  | none => []
noncomputable def growRow (xs : List Int) (n : Int) : List Int := pathI n.toNat (growP xs n)
theorem growP_bad {xs : List Int} {n : Int} (h : vldB xs = false ∨ ¬ (1 ≤ n ∧ n ≤ 90)) : growP xs n = none := by
  rw [growP, if_neg]
  rintro ⟨h1, h2⟩
  rcases h with h | h
  · rw [h] at h1; cases h1
  · exact h h2
theorem growP_val {t : T} {n : Nat} (h : vldB t.enc = true) (h1 : 1 ≤ n) (h2 : n ≤ 90) : growP t.enc n = rise 3000 n t := by
  rw [growP, if_pos ⟨h, by omega, by omega⟩, of_enc]; rfl
theorem growP_bnd {xs : List Int} {n : Int} {p : Nat × Nat} (h : growP xs n = some p) : vldB xs = true ∧ 1 ≤ n ∧ n ≤ p.1 ∧ p.1 ≤ 90 ∧ p.2 ≤ 3000 ∧ rise 3000 n.toNat (of xs) = some p := by
  unfold growP at h
  split at h
  · rename_i hc
    have h1 := rise_bnd h
    exact ⟨hc.1, hc.2.1, by omega, h1.2.2 (by omega), h1.2.1, h⟩
  · cases h
theorem growRow_len (xs : List Int) (n : Int) : (growRow xs n).length ≤ 90 := by
  unfold growRow
  cases hp : growP xs n with
  | none => simp [pathI]
  | some p =>
    have := growP_bnd hp
    simp only [pathI, up_len]; omega
theorem growE_bnd (xs : List Int) (n : Int) : -1 ≤ growE xs n ∧ growE xs n ≤ 90 := by
  unfold growE
  cases hp : growP xs n with
  | none => simp [endI]
  | some p =>
    have := growP_bnd hp
    simp only [endI]; omega

end T
end Go.Proofs.Ythalogciiochfaa

/- IterM -/
/- Iterations, on numbers. -/
namespace Go.Proofs.Ythalogciiochfaa
set_option maxRecDepth 100000
namespace T

/-- So many times, one after the other. -/
def many (f : Nat → Option Nat) : Nat → Nat → Option Nat
  | 0, n => some n
  | k + 1, n => (f n).bind (many f k)
def iter : Nat → Nat → Option Nat
  | 0, n => if n < 90 then some (n + 1) else none
  | l + 1, n => many (iter l) n n
def optI : Option Nat → Int
  | some m => (m : Int)
  | none => -1
def iterRes (l n : Int) : Int := if (0 ≤ l ∧ l ≤ 9) ∧ 1 ≤ n ∧ n ≤ 90 then optI (iter l.toNat n.toNat) else -1

theorem many_bnd {f : Nat → Option Nat} (hf : ∀ n m, 1 ≤ n → n ≤ 90 → f n = some m → n < m ∧ m ≤ 90) : ∀ k n m, 1 ≤ n → n ≤ 90 → many f k n = some m → n + k ≤ m ∧ m ≤ 90
  | 0, n, m, h1, h2, h => by
    simp only [many, Option.some.injEq] at h
    omega
  | k + 1, n, m, h1, h2, h => by
    simp only [many] at h
    cases hd : f n with
    | none => rw [hd] at h; cases h
    | some x =>
      rw [hd] at h
      simp only [Option.bind_some] at h
      have h3 := hf n x h1 h2 hd
      have h4 := many_bnd hf k x m (by omega) h3.2 h
      omega
theorem iter_bnd : ∀ l n m, 1 ≤ n → n ≤ 90 → iter l n = some m → n < m ∧ m ≤ 90
  | 0, n, m, h1, h2, h => by
    simp only [iter] at h
    split at h
    · injection h with h; omega
    · cases h
  | l + 1, n, m, h1, h2, h => by
    have := many_bnd (iter_bnd l) n n m h1 h2 h
    omega
theorem optI_bnd {l n : Nat} (h1 : 1 ≤ n) (h2 : n ≤ 90) : optI (iter l n) = -1 ∨ ∃ m : Nat, iter l n = some m ∧ n < m ∧ m ≤ 90 := by
  cases hd : iter l n with
  | none => exact .inl rfl
  | some m => exact .inr ⟨m, rfl, iter_bnd l n m h1 h2 hd⟩
theorem iterRes_bad {l n : Int} (h : ¬ (0 ≤ l ∧ l ≤ 9) ∨ ¬ (1 ≤ n ∧ n ≤ 90)) : iterRes l n = -1 := by
  rw [iterRes, if_neg]
  rintro ⟨h1, h2⟩
  rcases h with h | h
  · exact h h1
  · exact h h2
theorem iterRes_val {l n : Nat} (h0 : l ≤ 9) (h1 : 1 ≤ n) (h2 : n ≤ 90) : iterRes l n = optI (iter l n) := by
  rw [iterRes, if_pos ⟨⟨by omega, by omega⟩, by omega, by omega⟩]; rfl

/-- Between two rounds: what was reached after some of them. -/
def manyAt (R : Option Nat) (f : Nat → Option Nat) (k : Nat) (x : Option Nat) : Prop := R = x.bind (many f k)
theorem manyAt.next {R : Option Nat} {f : Nat → Option Nat} {k m : Nat} (h : manyAt R f (k + 1) (some m)) : manyAt R f k (f m) := by
  unfold manyAt at *
  rw [h]; rfl
theorem manyAt.none {R : Option Nat} {f : Nat → Option Nat} {k : Nat} (h : manyAt R f k none) : R = none := h
theorem manyAt.done {R : Option Nat} {f : Nat → Option Nat} {x : Option Nat} (h : manyAt R f 0 x) : R = x := by
  unfold manyAt at h
  rw [h]
  cases x <;> rfl
theorem manyAt.start {f : Nat → Option Nat} {k n : Nat} : manyAt (many f k n) f k (some n) := rfl

end T
end Go.Proofs.Ythalogciiochfaa

/- GrowS -/
/- Grow of the model. -/
namespace Go.Proofs.Ythalogciiochfaa
set_option maxRecDepth 100000
open Go.RowKit

def GPost (w : World) (r : List Int) (e : Ending) (w' : World) : Prop :=
  ∃ a c, e = .returned (.slice a r.length c) ∧ w'.ownsRow w.heap.size 3 1 (.slice a r.length c) r.length (ints r) ∧ Below w.heap.size w w'

def GrRel (R : Option (Nat × Nat)) (w : World) (v0 v1 v7 : Value) (wr : World) : Prop :=
  ∃ (s nn : Nat) (tm : T), s ≤ 3001 ∧ 1 ≤ nn ∧ nn ≤ 90 ∧ T.vldB tm.enc = true ∧ v7 = .int .i64 s ∧ v1 = .int .i64 nn ∧ (s ≤ 3000 → T.riseFrom R s (3000 - s) nn tm) ∧ (3001 ≤ s → R = none) ∧ Below w.heap.size w wr ∧
    ∃ bb off c, v0 = .slice (some ⟨bb, off, none⟩) tm.enc.length c ∧ tm.enc.length ≤ c ∧ c ≤ maxLen ∧ At wr bb off tm.enc

theorem T.riseFrom.go {R : Option (Nat × Nat)} {s n n' : Nat} {t : T} (h : T.riseFrom R s (3000 - s) n t) (ht : t ≠ .z) (hv : T.vldB (t.step n).enc = true) (hk : t.kind = 1 ∧ n < 90 ∧ n' = n + 1 ∨ t.kind ≠ 1 ∧ n' = n) (hs : s ≤ 3000) :
    (s + 1 ≤ 3000 → T.riseFrom R (s + 1) (3000 - (s + 1)) n' (t.step n)) ∧ (3001 ≤ s + 1 → R = none) := by
  constructor
  · intro h1
    obtain ⟨g, hg⟩ : ∃ g, 3000 - s = g + 1 := ⟨3000 - s - 1, by omega⟩
    rw [hg] at h
    rw [show 3000 - (s + 1) = g by omega]
    rcases hk with ⟨h2, h3, rfl⟩ | ⟨h2, rfl⟩
    · exact (h.next ht hv).1 h2 h3
    · exact (h.next ht hv).2 h2
  · intro h1
    exact h.bad ht (.inl (by omega))

/-- A row, as a slice. -/
theorem Sl.of_at' {w : World} {b off len cap : Nat} {t : T} (hl : len = t.enc.length) (hc : len ≤ cap) (hm : cap ≤ maxLen) (h : At w b off t.enc) : Sl w (some ⟨b, off, none⟩) len cap t.enc :=
  ⟨hl.symm, hc, hm, fun _ => ⟨b, off, rfl, h⟩⟩

set_option maxRecDepth 100000 in
set_option maxHeartbeats 4000000 in
theorem spec_Grow (ao : Option Addr) (len cap : Nat) (xs : List Int) (n : Int) (w : World) (h : Sl w ao len cap xs) (_hn0 : -9223372036854775808 ≤ n) (_hn1 : n ≤ 9223372036854775807) :
    Calls Try.prog 13 #[.slice ao len cap, .int .i64 n] w fun e w' => e = .returned (.tuple #[.int .i64 (T.growE xs n), .int .i64 (T.growS xs n)]) ∧ Below w.heap.size w w' := by
  unfold T.growE T.growS
  rcases vld_tf xs with h1 | h1
  · have k1 := Lib.hid (spec_valid ao len cap xs w h h1)
    by_cases hin : 1 ≤ n ∧ n ≤ 90
    · have ks := Lib.hid (fun w => l1In_yes n 1 90 w hin.1 hin.2)
      obtain ⟨b, off, t, rfl, rfl, hs, hos, hat, hn, hl, hp, hc, hm⟩ := h.valid h1
      obtain ⟨N, rfl⟩ : ∃ N : Nat, n = N := ⟨n.toNat, by omega⟩
      obtain ⟨R, hR⟩ : ∃ R, R = T.growP t.enc N := ⟨_, rfl⟩
      have hR2 := hR.trans (T.growP_val h1 (by omega) (by omega))
      rw [← hR]
      have HAT := Lib.hid hat
      have HN := Lib.hid hn
      have H1 := Lib.hid h1
      have HR := Lib.hid hR2
      clear h h1 hos hs hat hn _hn0 _hn1 hR hR2
      go_enter Try.func13, Try.ntmps13
      go_wp2_with fail
      refine (k1.out).mono ?_
      rintro ee w1 ⟨rfl, hb1⟩
      have hst : GrRel R w (.slice (some ⟨b, off, none⟩) len cap) (.int .i64 (N : Int)) (.int .i64 (0 : Nat)) w1 := by
        refine ⟨0, N, t, Nat.zero_le _, by omega, by omega, H1.out, rfl, rfl, fun _ => ?_, fun h => by omega, hb1, b, off, cap, ?_, ?_, hm, HAT.out.below hb1 (HAT.out.lt (T.enc_ne t))⟩
        · rw [HR.out]; exact T.riseFrom.start 3000 N t
        · rw [← HN.out]
        · rw [← HN.out]; exact hc
      have Hst := Lib.hid hst
      clear hb1 hst
      go_wp2_with fail
      refine (ks.out _).mono ?_
      rintro ee wx ⟨rfl, rfl⟩
      go_wp2_with fail
      go_loopw [0, 1, 6] (fun v0 v1 v7 wr => GrRel R w v0 v1 v7 wr) (fun _ _ v7 _ => 3001 - (intOf v7).toNat)
      case atStart => exact Hst.out
      case round =>
        obtain ⟨m, nn, tm, hm2, hn1, hn9, hvm, rfl, rfl, hrf, hno, hb, bb, off', c', rfl, hle, hcm', hata⟩ := hrel
        have Hrf := Lib.hid hrf
        have Hno := Lib.hid hno
        have HB := Lib.hid hb
        have HVM := Lib.hid hvm
        obtain ⟨ln, hln⟩ : ∃ ln, ln = tm.enc.length := ⟨_, rfl⟩
        rw [← hln] at hle ⊢
        have HLN := Lib.hid hln
        have hsl := Sl.of_at' (t := tm) hln hle hcm' hata
        have kk := Lib.hid (spec_OrdKind (some ⟨bb, off', none⟩) ln c' tm.enc wr hsl)
        rw [T.kindRow, if_pos hvm, T.of_enc] at kk
        have HSL := Lib.hid hsl
        clear hrf hno hb hata hvm hln hsl
        by_cases hlt : m ≤ 3000
        · by_cases hz : tm = .z
          · have hl1 : ln = 1 := by rw [HLN.out, hz]; rfl
            have hlb : ((ln : Int) == 1) = true := by rw [hl1]; rfl
            have HE := Lib.hid ((Hrf.out hlt).done hz)
            clear hz hl1
            go_wp2_with fail
            go_ret2
            exact ⟨by rw [HE.out]; rfl, HB.out⟩
          · have hlb : ((ln : Int) == 1) = false := by
              cases tm with
              | z => exact absurd rfl hz
              | c q f u =>
                have h1 := HLN.out
                rw [T.enc_len, T.body_c] at h1
                simp [T.enc] at h1 ⊢
                omega
            have HZ := Lib.hid hz
            obtain ⟨nr, hnr⟩ : ∃ nr, nr = T.stepRow tm.enc nn := ⟨_, rfl⟩
            obtain ⟨no, hno⟩ : ∃ no, no = T.stepOk tm.enc nn := ⟨_, rfl⟩
            have hv2 := T.stepRow_val HVM.out (show (0 : Int) ≤ nn by omega) (by omega)
            have Hnr := Lib.hid (hnr.trans hv2.1)
            have Hno1 := Lib.hid (hno.trans hv2.2)
            have Hnr0 := Lib.hid hnr
            have Hno0 := Lib.hid hno
            clear hz hnr hno hv2
            have ks2 := Lib.hid (fun w2 (hx : Below wr.heap.size wr w2) => spec_OrdStep (some ⟨bb, off', none⟩) ln c' tm.enc nn w2 (HSL.out.below hx) (by omega) (by omega))
            unfold OrdOkPost at ks2
            rw [← Hnr0.out, ← Hno0.out] at ks2
            by_cases hkd : tm.kind = 1
            · have hkb : (tm.kind == 1) = true := by rw [hkd]; rfl
              have HKD := Lib.hid hkd
              clear hkd
              go_wp2_with fail
              refine (kk.out).mono ?_
              rintro ee w2 ⟨rfl, hb2⟩
              have ks3 := Lib.hid (ks2.out w2 hb2)
              have Hb2 := Lib.hid (HB.out.trans (hb2.mono HB.out.size))
              clear hb2 ks2
              go_wp2_with fail
              refine (ks3.out).mono ?_
              rintro ee w3 ⟨a3, c3, rfl, ho3, hb3⟩
              have Hb3 := Lib.hid (Hb2.out.trans (hb3.mono Hb2.out.size))
              have Ho3 := Lib.hid ho3
              clear ho3 hb3
              cases hno2 : no with
              | false =>
                have HE := Lib.hid ((Hrf.out hlt).bad HZ.out (.inr (.inl (by rw [← Hno1.out, hno2]))))
                clear hno2
                go_wp2_with fail
                go_ret2
                exact ⟨by rw [HE.out]; rfl, Hb3.out⟩
              | true =>
                by_cases h90 : nn < 90
                · have hvn : T.vldB (tm.step nn).enc = true := by rw [← Hno1.out, hno2]
                  have hfe : nr = (tm.step nn).enc := by rw [Hnr.out, T.fit, if_pos hvn]
                  have ho3 := Ho3.out
                  rw [hfe] at ho3
                  obtain ⟨g2, rfl, hg2, hatn, hcn, hcmn⟩ := own_rowT ho3
                  have hnx := (Hrf.out hlt).go HZ.out hvn (n' := nn + 1) (.inl ⟨HKD.out, h90, rfl⟩) hlt
                  have hfin : GrRel R w (.slice (some ⟨g2, 0, none⟩) nr.length c3) (.int .i64 ((nn + 1 : Nat) : Int)) (.int .i64 ((m + 1 : Nat) : Int)) w3 :=
                    ⟨m + 1, nn + 1, tm.step nn, by omega, by omega, by omega, hvn, rfl, rfl, hnx.1, hnx.2, Hb3.out, g2, 0, c3, by rw [hfe], hcn, hcmn, hatn⟩
                  have Hfin := Lib.hid hfin
                  clear hno2 hvn hfe ho3 hatn hcn hcmn hfin hg2 hnx
                  go_wp2_with fail
                  go_roundw
                  case rel => have h := Hfin.out; simpa using h
                  case measure => simp [intOf]; omega
                · have HE := Lib.hid ((Hrf.out hlt).bad HZ.out (.inr (.inr ⟨HKD.out, by omega⟩)))
                  clear hno2
                  go_wp2_with fail
                  go_ret2
                  exact ⟨by rw [HE.out]; rfl, Hb3.out⟩
            · have hkb : (tm.kind == 1) = false := by simpa using hkd
              have HKD := Lib.hid hkd
              clear hkd
              go_wp2_with fail
              refine (kk.out).mono ?_
              rintro ee w2 ⟨rfl, hb2⟩
              have ks3 := Lib.hid (ks2.out w2 hb2)
              have Hb2 := Lib.hid (HB.out.trans (hb2.mono HB.out.size))
              clear hb2 ks2
              go_wp2_with fail
              refine (ks3.out).mono ?_
              rintro ee w3 ⟨a3, c3, rfl, ho3, hb3⟩
              have Hb3 := Lib.hid (Hb2.out.trans (hb3.mono Hb2.out.size))
              have Ho3 := Lib.hid ho3
              clear ho3 hb3
              cases hno2 : no with
              | false =>
                have HE := Lib.hid ((Hrf.out hlt).bad HZ.out (.inr (.inl (by rw [← Hno1.out, hno2]))))
                clear hno2
                go_wp2_with fail
                go_ret2
                exact ⟨by rw [HE.out]; rfl, Hb3.out⟩
              | true =>
                have hvn : T.vldB (tm.step nn).enc = true := by rw [← Hno1.out, hno2]
                have hfe : nr = (tm.step nn).enc := by rw [Hnr.out, T.fit, if_pos hvn]
                have ho3 := Ho3.out
                rw [hfe] at ho3
                obtain ⟨g2, rfl, hg2, hatn, hcn, hcmn⟩ := own_rowT ho3
                have hnx := (Hrf.out hlt).go HZ.out hvn (n' := nn) (.inr ⟨HKD.out, rfl⟩) hlt
                have hfin : GrRel R w (.slice (some ⟨g2, 0, none⟩) nr.length c3) (.int .i64 (nn : Int)) (.int .i64 ((m + 1 : Nat) : Int)) w3 :=
                  ⟨m + 1, nn, tm.step nn, by omega, by omega, by omega, hvn, rfl, rfl, hnx.1, hnx.2, Hb3.out, g2, 0, c3, by rw [hfe], hcn, hcmn, hatn⟩
                have Hfin := Lib.hid hfin
                clear hno2 hvn hfe ho3 hatn hcn hcmn hfin hg2 hnx
                go_wp2_with fail
                go_roundw
                case rel => have h := Hfin.out; simpa using h
                case measure => simp [intOf]; omega
        · have HE := Lib.hid (Hno.out (by omega))
          go_wp2_with fail
          go_ret2
          exact ⟨by rw [HE.out]; rfl, HB.out⟩
    · have ks := Lib.hid (fun w => l1In_no n 1 90 w (by omega))
      rw [T.growP_bad (xs := xs) (n := n) (.inr hin)]
      clear h h1 hin _hn0 _hn1
      go_enter Try.func13, Try.ntmps13
      go_wp2_with fail
      refine (k1.out).mono ?_
      rintro ee w1 ⟨rfl, hb1⟩
      have Hb1 := Lib.hid hb1
      clear hb1
      go_wp2_with fail
      refine (ks.out _).mono ?_
      rintro ee w2 ⟨rfl, rfl⟩
      go_wp2_with fail
      go_ret2
      exact ⟨rfl, Hb1.out⟩
  · have k1 := Lib.hid (spec_valid ao len cap xs w h h1)
    rw [T.growP_bad (xs := xs) (n := n) (.inl h1)]
    clear h h1 _hn0 _hn1
    go_enter Try.func13, Try.ntmps13
    go_wp2_with fail
    refine (k1.out).mono ?_
    rintro ee w1 ⟨rfl, hb1⟩
    have Hb1 := Lib.hid hb1
    clear hb1
    go_wp2_with fail
    go_ret2
    exact ⟨rfl, Hb1.out⟩
end Go.Proofs.Ythalogciiochfaa

/- IterI -/
/- Iterate of the program: each kind of growth is a function in a field; each iteration captures the one below it. -/
namespace Go.Proofs.Ythalogciiochfaa
set_option maxRecDepth 100000
open Go.RowKit

theorem run_store_func (P : Program) (w : World) (a : Addr) (f : Fn) (r c : Array Value) (m : Mode) : (store a (.func f r c) m).run P w = stored P w a (.func f r c) m := run_store P w a _ m rfl
attribute [local go_sem] run_store_func

theorem run_field_growth (v : Value) (w : World) : (Instr.field 60 (.agg #[v]) 0).run Try.prog w = .ok v w := by kernel_rfl
attribute [local go_sem] run_field_growth

/-- The growth of a level: the function in its field, and what it captured. -/
def GF (A : Nat) (W : World) : Nat → Value → Prop
  | 0, v => v = .func (.func 96) #[] #[]
  | l + 1, v => ∃ b u, v = .func (.func 97) #[] #[.pointer (some ⟨b, 0, none⟩)] ∧ A < b ∧ W.cell? ⟨b, 0, none⟩ = some u ∧ GF A W l u
theorem GF.below {A : Nat} {W W' : World} {B : Nat} (h : Below B W W') (hB : W.heap.size ≤ B) : ∀ {l : Nat} {v : Value}, GF A W l v → GF A W' l v
  | 0, _, hv => hv
  | _ + 1, _, ⟨b, u, h1, h0, h2, h3⟩ => ⟨b, u, h1, h0, (h.cell (p := ⟨b, 0, none⟩) (Nat.lt_of_lt_of_le (World.block_lt_of_cell? _ _ h2) hB)).trans h2, GF.below h hB h3⟩
theorem GF.set {A B : Nat} {W : World} (hB : B ≤ A) (x : Value) : ∀ {l : Nat} {v : Value}, GF A W l v → GF A (W.setCell ⟨B, 0, none⟩ x) l v
  | 0, _, hv => hv
  | _ + 1, _, ⟨b, u, h1, h0, h2, h3⟩ => ⟨b, u, h1, h0, (World.cell?_setCell_other _ _ _ _ (by intro e; have h := congrArg Addr.block e; dsimp only at h; omega)).trans h2, GF.set hB x h3⟩

theorem oneMore1_any (n : Nat) (w : World) (h2 : n ≤ 90) :
    Calls Try.prog 96 #[.int .i64 n] w fun e w' => e = .returned (.int .i64 (T.optI (T.iter 0 n))) ∧ w = w' := by
  by_cases h9 : n < 90
  · have hr : T.optI (T.iter 0 n) = (n : Int) + 1 := by simp only [T.iter]; rw [if_pos h9]; simp [T.optI]
    have hb : ¬ (90 : Int) ≤ n := by omega
    rw [hr]
    clear hr
    go_enter Try.func96, Try.ntmps96
    go_wp2
    go_ret
    exact ⟨rfl, rfl⟩
  · have hr : T.optI (T.iter 0 n) = -1 := by simp only [T.iter]; rw [if_neg h9]; rfl
    have hb : (90 : Int) ≤ n := by omega
    rw [hr]
    clear hr
    go_enter Try.func96, Try.ntmps96
    go_wp2
    go_ret
    exact ⟨rfl, rfl⟩

/-- What a growth of a level answers. -/
def GAns (l : Nat) (v : Value) (W : World) : Prop :=
  ∃ f c, v = .func (.func f) #[] c ∧ ∀ (n : Nat) (w : World), 1 ≤ n → n ≤ 90 → Below W.heap.size W w →
    Calls Try.prog f (#[.int .i64 n] ++ c) w fun e w' => e = .returned (.int .i64 (T.optI (T.iter l n))) ∧ Below w.heap.size w w'

set_option maxHeartbeats 4000000 in
theorem iterated1_any (l b f : Nat) (c : Array Value) (n : Nat) (W w : World) (h1 : 1 ≤ n) (h2 : n ≤ 90) (hW : Below W.heap.size W w) (hb : W.cell? ⟨b, 0, none⟩ = some (.func (.func f) #[] c))
    (hf : (f = 96 ∧ c = #[]) ∨ ∃ b', f = 97 ∧ c = #[.pointer (some ⟨b', 0, none⟩)])
    (ih : ∀ (n : Nat) (w : World), 1 ≤ n → n ≤ 90 → Below W.heap.size W w → Calls Try.prog f (#[.int .i64 n] ++ c) w fun e w' => e = .returned (.int .i64 (T.optI (T.iter l n))) ∧ Below w.heap.size w w') :
    Calls Try.prog 97 #[.int .i64 n, .pointer (some ⟨b, 0, none⟩)] w fun e w' => e = .returned (.int .i64 (T.optI (T.iter (l + 1) n))) ∧ Below w.heap.size w w' := by
  have IH := Lib.hid ih
  have HW := Lib.hid hW
  have HB := Lib.hid hb
  have hbl : b < W.heap.size := World.block_lt_of_cell? _ _ hb
  obtain ⟨R, hR⟩ : ∃ R, R = T.iter (l + 1) n := ⟨_, rfl⟩
  have HR := Lib.hid (show T.manyAt R (T.iter l) n (some n) by rw [hR]; exact T.manyAt.start)
  rw [← hR]
  clear ih hW hb hR
  go_enter Try.func97, Try.ntmps97
  go_wp2_with fail
  go_loopw [4, 5] (fun v4 v5 wr => ∃ (i : Nat) (x : Option Nat), v5 = .int .i64 i ∧ i ≤ n ∧ v4 = .int .i64 (T.optI x) ∧ (∀ m, x = some m → 1 ≤ m ∧ m ≤ 90) ∧ T.manyAt R (T.iter l) (n - i) x ∧ Below w.heap.size w wr) (fun _ v5 _ => n - (intOf v5).toNat)
  case atStart => exact ⟨0, some n, rfl, by omega, rfl, fun m hm => by cases hm; exact ⟨h1, h2⟩, HR.out, Below.refl _ _⟩
  case round =>
    obtain ⟨i, x, rfl, hi, rfl, hx, hm, hbr⟩ := hrel
    have HM := Lib.hid hm
    have HBr := Lib.hid hbr
    clear hm hbr
    have hcb : wr.cell? ⟨b, 0, none⟩ = some (.func (.func f) #[] c) := ((HW.out.trans (HBr.out.mono HW.out.size)).cell (p := ⟨b, 0, none⟩) hbl).trans HB.out
    cases x with
    | none =>
      have HN := Lib.hid HM.out.none
      have hg0 : ¬ ((0 : Int) < -1) := by omega
      by_cases hin : i < n
      · have hin2 : (i : Int) < n := by omega
        simp only [T.optI]
        go_wp2_with fail
        go_ret
        exact ⟨by rw [HN.out]; rfl, HBr.out⟩
      · have hin2 : ¬ (i : Int) < n := by omega
        simp only [T.optI]
        go_wp2_with fail
        go_ret
        exact ⟨by rw [HN.out]; rfl, HBr.out⟩
    | some x =>
      have hx1 := (hx x rfl).1
      have hx2 := (hx x rfl).2
      have hg0 : (0 : Int) < x := by omega
      simp only [T.optI]
      by_cases hin : i < n
      · have hin2 : (i : Int) < n := by omega
        have k1 := Lib.hid (fun w2 (hx : Below wr.heap.size wr w2) => IH.out x w2 hx1 hx2 ((HW.out.trans (HBr.out.mono HW.out.size)).trans (hx.mono (Nat.le_trans HW.out.size HBr.out.size))))
        have hnx : T.manyAt R (T.iter l) (n - (i + 1)) (T.iter l x) := by
          have h3 := HM.out
          rw [show n - i = (n - (i + 1)) + 1 by omega] at h3
          exact h3.next
        have HNX := Lib.hid hnx
        have HY := Lib.hid (fun m (hm : T.iter l x = some m) => T.iter_bnd l x m hx1 hx2 hm)
        obtain ⟨y, hy⟩ : ∃ y, y = T.iter l x := ⟨_, rfl⟩
        rw [← hy] at k1 HNX HY
        clear hnx hx hy
        rcases hf with ⟨rfl, rfl⟩ | ⟨b', rfl, rfl⟩
        · skip
          go_wp2_with fail
          refine (k1.out _ (Below.refl _ _)).mono ?_
          rintro ee w2 ⟨rfl, hb2⟩
          have Hb2 := Lib.hid (HBr.out.trans (hb2.mono HBr.out.size))
          clear hb2
          go_wp2_with fail
          go_roundw
          case rel => exact ⟨i + 1, y, by simp, by omega, rfl, fun m hm => ⟨by have := (HY.out m hm).1; omega, (HY.out m hm).2⟩, HNX.out, Hb2.out⟩
          case measure => simp [intOf]; omega
        · skip
          go_wp2_with fail
          refine (k1.out _ (Below.refl _ _)).mono ?_
          rintro ee w2 ⟨rfl, hb2⟩
          have Hb2 := Lib.hid (HBr.out.trans (hb2.mono HBr.out.size))
          clear hb2
          go_wp2_with fail
          go_roundw
          case rel => exact ⟨i + 1, y, by simp, by omega, rfl, fun m hm => ⟨by have := (HY.out m hm).1; omega, (HY.out m hm).2⟩, HNX.out, Hb2.out⟩
          case measure => simp [intOf]; omega
      · have hin2 : ¬ (i : Int) < n := by omega
        have hRd : R = some x := by
          have h3 := HM.out
          rw [show n - i = 0 by omega] at h3
          exact h3.done
        have HRD := Lib.hid hRd
        clear hRd
        go_wp2_with fail
        go_ret
        exact ⟨by rw [HRD.out]; rfl, HBr.out⟩

theorem GF.form {A : Nat} {W : World} {f : Nat} {c : Array Value} : ∀ {l : Nat}, GF A W l (.func (.func f) #[] c) →
    (f = 96 ∧ c = #[]) ∨ ∃ b', f = 97 ∧ c = #[.pointer (some ⟨b', 0, none⟩)]
  | 0, h => by simp only [GF, Value.func.injEq, Fn.func.injEq, true_and] at h; exact .inl h
  | _ + 1, ⟨b', _, h4, _⟩ => by
    simp only [Value.func.injEq, Fn.func.injEq, true_and] at h4
    exact .inr ⟨b', h4⟩
theorem GF.ans {A : Nat} {W : World} : ∀ {l : Nat} {v : Value}, GF A W l v → GAns l v W
  | 0, v, h => ⟨96, #[], h, fun n w _ h2 _ => (oneMore1_any n w h2).mono (by rintro e w' ⟨rfl, rfl⟩; exact ⟨rfl, Below.refl _ _⟩)⟩
  | l + 1, v, ⟨b, u, h1, _, h2, h3⟩ => by
    obtain ⟨f, c, rfl, ih⟩ := GF.ans h3
    have hf : (f = 96 ∧ c = #[]) ∨ ∃ b', f = 97 ∧ c = #[.pointer (some ⟨b', 0, none⟩)] := GF.form h3
    exact ⟨97, #[.pointer (some ⟨b, 0, none⟩)], h1, fun n w hn1 hn2 hW => iterated1_any l b f c n W w hn1 hn2 hW h2 hf ih⟩

theorem oneMore_any (w : World) :
    Calls Try.prog 85 #[] w fun e w' => e = .returned (.agg #[.func (.func 96) #[] #[]]) ∧ Below w.heap.size w w' := by
  have hb : Below w.heap.size w (w.alloc (.cells #[.func (.func 96) #[] #[]] 60)) := (Below.refl _ _).alloc (Nat.le_refl _) _
  have z3 := (Boxed.new w 60 (.func (.func 96) #[] #[])).cell
  go_enter Try.func85, Try.ntmps85
  go_wp2
  exact bodyPost_ret (v := .agg #[.func (.func 96) #[] #[]]) (by simp [results, Try.f85, go_sem, z3]) rfl ⟨rfl, hb⟩
theorem iterated_any (v : Value) (w : World) :
    Calls Try.prog 86 #[.agg #[v]] w fun e w' => e = .returned (.agg #[.func (.func 97) #[] #[.pointer (some ⟨w.heap.size, 0, none⟩)]]) ∧ Below w.heap.size w w' ∧ w'.cell? ⟨w.heap.size, 0, none⟩ = some v := by
  have z4 := ((Boxed.new w 60 v).alloc (.cells #[.func (.func 97) #[] #[.pointer (some ⟨w.heap.size, 0, none⟩)]] 60)).cell
  have hx := Boxed.new (w.alloc (.cells #[v] 60)) 60 (.func (.func 97) #[] #[.pointer (some ⟨w.heap.size, 0, none⟩)])
  rw [World.size_alloc] at hx
  have z3 := hx.cell
  have hb : Below w.heap.size w ((w.alloc (.cells #[v] 60)).alloc (.cells #[.func (.func 97) #[] #[.pointer (some ⟨w.heap.size, 0, none⟩)]] 60)) := ((Below.refl _ _).alloc (Nat.le_refl _) _).alloc (by simp) _
  clear hx
  go_enter Try.func86, Try.ntmps86
  go_wp2
  exact bodyPost_ret (v := .agg #[.func (.func 97) #[] #[.pointer (some ⟨w.heap.size, 0, none⟩)]]) (by simp [results, Try.f86, go_sem, z3]) rfl ⟨rfl, hb, z4⟩

/-- Between two rounds: the growth of so many levels lies in a cell. -/
def LvRel (w : World) (A B : Nat) (v6 : Value) (wr : World) : Prop :=
  ∃ (i : Nat) (u : Value), v6 = .int .i64 i ∧ i ≤ B ∧ GF A wr i u ∧ Boxed wr A 60 u ∧ Boxed wr w.heap.size 60 .nilFunc ∧ Below w.heap.size w wr

set_option maxHeartbeats 4000000 in
theorem growthOfLevel_any (L : Nat) (w : World) (hL : L ≤ 9) :
    Calls Try.prog 58 #[.int .i64 L] w fun e w' => ∃ A u, e = .returned (.agg #[u]) ∧ GF A w' L u ∧ Below w.heap.size w w' := by
  have k1 := Lib.hid (fun w => oneMore_any w)
  have k2 := Lib.hid (fun v w => iterated_any v w)
  have h0 := Boxed.new w 60 .nilFunc
  have H0 := Lib.hid h0
  clear h0
  go_enter Try.func58, Try.ntmps58
  go_wp2_with fail
  refine (k1.out _).mono ?_
  rintro ee w1 ⟨rfl, hb1⟩
  have h1 := Boxed.new w1 60 (.func (.func 96) #[] #[])
  have hs := hb1.size
  rw [World.size_alloc] at hs
  have h0 : Boxed w1 w.heap.size 60 .nilFunc := (hb1.block _ (by simp)).trans H0.out
  have hst : LvRel w w1.heap.size L (.int .i64 (0 : Nat)) (w1.alloc (.cells #[.func (.func 96) #[] #[]] 60)) :=
    ⟨0, _, rfl, Nat.zero_le _, rfl, h1, h0.alloc _, ((((Below.refl _ _).alloc (Nat.le_refl _) _).trans (hb1.mono (by simp))).alloc (by omega) _)⟩
  have Hst := Lib.hid hst
  have hA : w.heap.size < w1.heap.size := by omega
  clear h1 h0 hst hb1 hs
  go_wp2_with fail
  obtain ⟨A, hAe⟩ : ∃ A, A = w1.heap.size := ⟨_, rfl⟩
  rw [← hAe] at Hst hA ⊢
  clear hAe
  go_loopw [6] (fun v6 wr => LvRel w A L v6 wr) (fun v6 _ => L - (intOf v6).toNat)
  case atStart => exact Hst.out
  case round =>
    obtain ⟨i, u, rfl, hi, hgf, hb, hr, hbw⟩ := hrel
    have HG := Lib.hid hgf
    have HB := Lib.hid hb
    have HR := Lib.hid hr
    have HBw := Lib.hid hbw
    have z1 := hb.cell
    have z2 := hb.frozen
    have z3 := hr.cell
    have z4 := hr.frozen
    clear hgf hb hr hbw
    by_cases hin : i < L
    · have hin2 : (i : Int) < L := by omega
      go_wp2_with fail
      refine (k2.out _ _).mono ?_
      rintro ee w2 ⟨rfl, hb2, hc2⟩
      have h1 : Boxed w2 A 60 u := (hb2.block _ HB.out.lt).trans HB.out
      have h2 : Boxed w2 w.heap.size 60 .nilFunc := (hb2.block _ HR.out.lt).trans HR.out
      have hg2 : GF A w2 i u := HG.out.below hb2 (Nat.le_refl _)
      have y1 := h1.cell
      have y2 := h1.frozen
      have hAlt := HB.out.lt
      have hwl := HBw.out.size
      have hfin : LvRel w A L (.int .i64 ((i + 1 : Nat) : Int)) (w2.setCell ⟨A, 0, none⟩ (.func (.func 97) #[] #[.pointer (some ⟨wr.heap.size, 0, none⟩)])) := by
        refine ⟨i + 1, _, rfl, by omega, ⟨wr.heap.size, u, rfl, hAlt, ?_, hg2.set (Nat.le_refl _) _⟩, h1.set _, h2.other (by omega) _, (HBw.out.trans (hb2.mono hwl)).setCell (p := ⟨A, 0, none⟩) (by show w.heap.size ≤ A; omega) _⟩
        exact (World.cell?_setCell_other _ _ _ _ (by intro e; have h := congrArg Addr.block e; dsimp only at h; omega)).trans hc2
      have Hfin := Lib.hid hfin
      clear hb2 hc2 h1 h2 hg2 hfin z1 z2 z3 z4
      go_wp2_with fail
      go_roundw
      case rel => have h := Hfin.out; simpa using h
      case measure => simp [intOf]; omega
    · have hin2 : ¬ (i : Int) < L := by omega
      obtain rfl : i = L := by omega
      obtain ⟨f, c, rfl, _⟩ := HG.out.ans
      have y3 := (HR.out.set (.func (.func f) #[] c)).cell
      have hbf : Below w.heap.size w (wr.setCell ⟨w.heap.size, 0, none⟩ (.func (.func f) #[] c)) := HBw.out.setCell (p := ⟨w.heap.size, 0, none⟩) (by simp) _
      have Hbf := Lib.hid hbf
      clear hbf
      go_wp2_with fail
      refine bodyPost_ret (v := .agg #[.func (.func f) #[] c]) (by simp [results, Try.f58, go_sem, y3]) rfl ⟨A, _, rfl, HG.out.set (by omega) _, Hbf.out⟩

set_option maxHeartbeats 4000000 in
theorem isGrowing_any (n : Int) (w : World) :
    Calls Try.prog 57 #[.int .i64 n] w fun e w' => e = .returned (.bool (decide (1 ≤ n ∧ n ≤ 90))) ∧ w = w' := by
  by_cases h0 : 1 ≤ n
  · by_cases h1 : n ≤ 90
    · have hr : decide (1 ≤ n ∧ n ≤ 90) = true := by simp [h0, h1]
      rw [hr]
      clear hr
      go_enter Try.func57, Try.ntmps57
      go_wp2
      go_ret
      exact ⟨rfl, rfl⟩
    · have hr : decide (1 ≤ n ∧ n ≤ 90) = false := by simp [h1]
      have hd : decide (n ≤ 90) = false := by simp [h1]
      rw [hr]
      clear hr
      go_enter Try.func57, Try.ntmps57
      go_wp2
      go_ret
      exact ⟨rfl, rfl⟩
  · have hr : decide (1 ≤ n ∧ n ≤ 90) = false := by simp [h0]
    have hd : decide (1 ≤ n) = false := by simp [h0]
    rw [hr]
    clear hr
    go_enter Try.func57, Try.ntmps57
    go_wp2
    go_ret
    exact ⟨rfl, rfl⟩

set_option maxHeartbeats 4000000 in
theorem impl_Iterate (l n : Int) (w : World) (_hl0 : -9223372036854775808 ≤ l) (_hl1 : l ≤ 9223372036854775807) (_hn0 : -9223372036854775808 ≤ n) (_hn1 : n ≤ 9223372036854775807) :
    Calls Try.prog 20 #[.int .i64 l, .int .i64 n] w fun e w' => e = .returned (.int .i64 (T.iterRes l n)) ∧ Below w.heap.size w w' := by
  have kg := Lib.hid (isGrowing_any n w)
  by_cases hl : l < 0
  · rw [T.iterRes_bad (.inl (by omega))]
    clear kg
    go_enter Try.func20, Try.ntmps20
    go_wp2_with fail
    go_ret
    exact ⟨rfl, Below.refl _ _⟩
  · by_cases hl9 : 9 < l
    · rw [T.iterRes_bad (.inl (by omega))]
      clear kg
      go_enter Try.func20, Try.ntmps20
      go_wp2_with fail
      go_ret
      exact ⟨rfl, Below.refl _ _⟩
    · by_cases h2 : 1 ≤ n ∧ n ≤ 90
      · rw [decide_eq_true h2] at kg
        obtain ⟨L, rfl⟩ : ∃ L : Nat, l = L := ⟨l.toNat, by omega⟩
        obtain ⟨N, rfl⟩ : ∃ N : Nat, n = N := ⟨n.toNat, by omega⟩
        rw [T.iterRes_val (by omega) (by omega) (by omega)]
        have hn1 : 1 ≤ N := by omega
        have hn2 : N ≤ 90 := by omega
        have k1 := Lib.hid (growthOfLevel_any L w (by omega))
        obtain ⟨r, hr⟩ : ∃ r, r = T.optI (T.iter L N) := ⟨_, rfl⟩
        have Hr := Lib.hid hr
        rw [← hr]
        clear h2 hr
        go_enter Try.func20, Try.ntmps20
        go_wp2_with fail
        refine (kg.out).mono ?_
        rintro ee wx ⟨rfl, rfl⟩
        go_wp2_with fail
        refine (k1.out).mono ?_
        rintro ee w1 ⟨A, u, rfl, hg, hb⟩
        obtain ⟨f, c, rfl, ha⟩ := hg.ans
        have k2 := Lib.hid (ha N w1 hn1 hn2 (Below.refl _ _))
        have hfm := hg.form
        have Hb := Lib.hid hb
        rw [← Hr.out] at k2
        clear hg hb ha
        rcases hfm with ⟨rfl, rfl⟩ | ⟨b', rfl, rfl⟩
        · go_wp2_with fail
          refine (k2.out).mono ?_
          rintro ee w2 ⟨rfl, hb2⟩
          have Hb2 := Lib.hid (Hb.out.trans (hb2.mono Hb.out.size))
          clear hb2
          go_wp2_with fail
          go_ret
          exact ⟨rfl, Hb2.out⟩
        · go_wp2_with fail
          refine (k2.out).mono ?_
          rintro ee w2 ⟨rfl, hb2⟩
          have Hb2 := Lib.hid (Hb.out.trans (hb2.mono Hb.out.size))
          clear hb2
          go_wp2_with fail
          go_ret
          exact ⟨rfl, Hb2.out⟩
      · rw [T.iterRes_bad (.inr h2)]
        rw [decide_eq_false h2] at kg
        clear h2
        go_enter Try.func20, Try.ntmps20
        go_wp2_with fail
        refine (kg.out).mono ?_
        rintro ee wx ⟨rfl, rfl⟩
        go_wp2_with fail
        go_ret
        exact ⟨rfl, Below.refl _ _⟩
end Go.Proofs.Ythalogciiochfaa

/- GrowI -/
/- Grow and GrowPath of the program: the climb along an ordinal. -/
namespace Go.Proofs.Ythalogciiochfaa
set_option maxRecDepth 100000
open Go.RowKit

attribute [local go_sem] run_store_func

attribute [local go_sem] run_field_growth
theorem unchanged1_any (n : Nat) (w : World) :
    Calls Try.prog 99 #[.int .i64 n] w fun e w' => e = .returned (.int .i64 n) ∧ w = w' := by
  go_enter Try.func99, Try.ntmps99
  go_wp2
  go_ret
  exact ⟨rfl, rfl⟩
theorem unchanged_any (w : World) :
    Calls Try.prog 94 #[] w fun e w' => e = .returned (.agg #[.func (.func 99) #[] #[]]) ∧ Below w.heap.size w w' := by
  have hb : Below w.heap.size w (w.alloc (.cells #[.func (.func 99) #[] #[]] 60)) := (Below.refl _ _).alloc (Nat.le_refl _) _
  have z3 := (Boxed.new w 60 (.func (.func 99) #[] #[])).cell
  go_enter Try.func94, Try.ntmps94
  go_wp2
  exact bodyPost_ret (v := .agg #[.func (.func 99) #[] #[]]) (by simp [results, Try.f94, go_sem, z3]) rfl ⟨rfl, hb⟩
theorem oneMore1_yes (n : Nat) (w : World) (h : n < 90) :
    Calls Try.prog 96 #[.int .i64 n] w fun e w' => e = .returned (.int .i64 ((n + 1 : Nat) : Int)) ∧ w = w' := by
  have h1 := oneMore1_any n w (by omega)
  rw [show T.optI (T.iter 0 n) = ((n + 1 : Nat) : Int) by simp only [T.iter]; rw [if_pos h]; rfl] at h1
  exact h1
theorem oneMore1_no (n : Nat) (w : World) (h : n ≤ 90) (h' : 90 ≤ n) :
    Calls Try.prog 96 #[.int .i64 n] w fun e w' => e = .returned (.int .i64 (-1)) ∧ w = w' := by
  have h1 := oneMore1_any n w h
  rw [show T.optI (T.iter 0 n) = -1 by simp only [T.iter]; rw [if_neg (by omega)]; rfl] at h1
  exact h1

set_option maxHeartbeats 4000000 in
theorem growthAt_any (b off n cap : Nat) (t : T) (w : World) (hn : n = t.enc.length) (hb : n ≤ 1000000000000) (hc : n ≤ cap) (hm : cap ≤ maxLen) (hat : At w b off t.enc) :
    Calls Try.prog 81 #[.slice (some ⟨b, off, none⟩) n cap] w fun e w' => e = .returned (.agg #[.func (.func (if t.kind = 1 then 96 else 99)) #[] #[]]) ∧ Below w.heap.size w w' := by
  have kk := Lib.hid (fun wx (hx : Below w.heap.size w wx) => kindOf_any b off n cap t wx hn hb hc hm (hat.below hx (hat.lt (T.enc_ne t))))
  have k1 := Lib.hid (fun w => oneMore_any w)
  have k2 := Lib.hid (fun w => unchanged_any w)
  have h0 := Boxed.new w 60 .nilFunc
  have Hba := Lib.hid (show Below w.heap.size w (w.alloc (.cells #[.nilFunc] 60)) from (Below.refl _ _).alloc (Nat.le_refl _) _)
  have H0 := Lib.hid h0
  obtain ⟨kd, hkd⟩ : ∃ kd, kd = t.kind := ⟨_, rfl⟩
  rw [← hkd] at kk ⊢
  clear hn hb hc hm hat h0 hkd
  by_cases hk : kd = 1
  · have hkb : (kd == 1) = true := by rw [hk]; rfl
    rw [if_pos hk]
    clear hk
    go_enter Try.func81, Try.ntmps81
    go_wp2_with fail
    refine (kk.out _ Hba.out).mono ?_
    rintro ee w1 ⟨rfl, hb1⟩
    have Hb1 := Lib.hid (Hba.out.trans (hb1.mono Hba.out.size))
    have Hx1 := Lib.hid (show Boxed w1 w.heap.size 60 .nilFunc from (hb1.block _ (by simp)).trans H0.out)
    clear hb1
    go_wp2_with fail
    refine (k1.out _).mono ?_
    rintro ee w2 ⟨rfl, hb2⟩
    have hx2 : Boxed w2 w.heap.size 60 .nilFunc := (hb2.block _ Hx1.out.lt).trans Hx1.out
    have z1 := hx2.cell
    have z2 := hx2.frozen
    have z3 := (hx2.set (.func (.func 96) #[] #[])).cell
    have Hb2 := Lib.hid ((Hb1.out.trans (hb2.mono Hb1.out.size)).setCell (p := ⟨w.heap.size, 0, none⟩) (Nat.le_refl _) (.func (.func 96) #[] #[]))
    clear hb2 hx2
    go_wp2_with fail
    exact bodyPost_ret (v := .agg #[.func (.func 96) #[] #[]]) (by simp [results, Try.f81, go_sem, z3]) rfl ⟨rfl, Hb2.out⟩
  · have hkb : (kd == 1) = false := by simpa using hk
    rw [if_neg hk]
    clear hk
    go_enter Try.func81, Try.ntmps81
    go_wp2_with fail
    refine (kk.out _ Hba.out).mono ?_
    rintro ee w1 ⟨rfl, hb1⟩
    have Hb1 := Lib.hid (Hba.out.trans (hb1.mono Hba.out.size))
    have Hx1 := Lib.hid (show Boxed w1 w.heap.size 60 .nilFunc from (hb1.block _ (by simp)).trans H0.out)
    clear hb1
    go_wp2_with fail
    refine (k2.out _).mono ?_
    rintro ee w2 ⟨rfl, hb2⟩
    have hx2 : Boxed w2 w.heap.size 60 .nilFunc := (hb2.block _ Hx1.out.lt).trans Hx1.out
    have z1 := hx2.cell
    have z2 := hx2.frozen
    have z3 := (hx2.set (.func (.func 99) #[] #[])).cell
    have Hb2 := Lib.hid ((Hb1.out.trans (hb2.mono Hb1.out.size)).setCell (p := ⟨w.heap.size, 0, none⟩) (Nat.le_refl _) (.func (.func 99) #[] #[]))
    clear hb2 hx2
    go_wp2_with fail
    exact bodyPost_ret (v := .agg #[.func (.func 99) #[] #[]]) (by simp [results, Try.f81, go_sem, z3]) rfl ⟨rfl, Hb2.out⟩

def ClRel (R : Option (Nat × Nat)) (n0 : Nat) (w : World) (v0 v1 v7 v8 : Value) (wr : World) : Prop :=
  ∃ (s nn : Nat) (tm : T), s ≤ 3000 ∧ n0 ≤ nn ∧ nn ≤ 90 ∧ T.vldB tm.enc = true ∧ v8 = .int .i64 s ∧ v1 = .int .i64 nn ∧ T.riseFrom R s (3000 - s) nn tm ∧ Below w.heap.size w wr ∧
    ∃ g c, v7 = .slice (some ⟨g, 0, none⟩) (nn + 1 - n0) c ∧ wr.ownsRow w.heap.size 3 1 (.slice (some ⟨g, 0, none⟩) (nn + 1 - n0) c) (nn + 1 - n0) (ints (T.up n0 (nn + 1 - n0))) ∧
    ∃ bb off c', v0 = .slice (some ⟨bb, off, none⟩) tm.enc.length c' ∧ tm.enc.length ≤ c' ∧ c' ≤ maxLen ∧ At wr bb off tm.enc ∧ g ≠ bb

def ClPost (w : World) (n0 : Nat) (R : Option (Nat × Nat)) (e : Ending) (w' : World) : Prop :=
  (R = none ∧ e = .returned (.tuple #[.slice none 0 0, .int .i64 0, .bool false]) ∧ Below w.heap.size w w') ∨
  ∃ (m s : Nat) (a : Option Addr) (c : Nat), R = some (m, s) ∧ n0 ≤ m ∧ m ≤ 90 ∧ e = .returned (.tuple #[.slice a (m + 1 - n0) c, .int .i64 s, .bool true]) ∧
    w'.ownsRow w.heap.size 3 1 (.slice a (m + 1 - n0) c) (m + 1 - n0) (ints (T.up n0 (m + 1 - n0))) ∧ Below w.heap.size w w'

theorem At.past {w w' : World} {b off : Nat} {xs : List Int} {row : Option Nat} (h : At w b off xs) (hg : w.grownBy w' row) (hne : some b ≠ row) : At w' b off xs :=
  fun j hj => hg.cell (h j hj) hne

theorem up_one (n : Nat) : T.up n (n + 1 - n) = [(n : Int)] := by
  rw [show n + 1 - n = 1 by omega]
  simp [T.up]

set_option maxRecDepth 100000 in
set_option maxHeartbeats 8000000 in
theorem climb_any (ao : Option Addr) (len cap : Nat) (xs : List Int) (n : Int) (w : World) (h : Sl w ao len cap xs) (_hn0 : -9223372036854775808 ≤ n) (_hn1 : n ≤ 9223372036854775807) :
    Calls Try.prog 48 #[.slice ao len cap, .int .i64 n] w (ClPost w n.toNat (T.growP xs n)) := by
  have ks := Lib.hid (isGrowing_any n)
  rcases vld_tf xs with h1 | h1
  · have k1 := Lib.hid (impl_valid ao len cap xs w h h1)
    by_cases hin : 1 ≤ n ∧ n ≤ 90
    · rw [decide_eq_true hin] at ks
      obtain ⟨b, off, t, rfl, rfl, hs, hos, hat, hn, hl, hp, hc, hm⟩ := h.valid h1
      obtain ⟨N, rfl⟩ : ∃ N : Nat, n = N := ⟨n.toNat, by omega⟩
      obtain ⟨i0, hi, hz0, hz1, hz2⟩ := info_parts info_int
      obtain ⟨R, hR⟩ : ∃ R, R = T.growP t.enc N := ⟨_, rfl⟩
      have hR2 := hR.trans (T.growP_val h1 (by omega) (by omega))
      rw [← hR, Int.toNat_natCast]
      have HAT := Lib.hid hat
      have HN := Lib.hid hn
      have H1 := Lib.hid h1
      have HR := Lib.hid hR2
      have hN1 : 1 ≤ N := by omega
      have hN9 : N ≤ 90 := by omega
      clear h h1 hos hs hat hn _hn0 _hn1 hR hR2 hin
      go_enter Try.func48, Try.ntmps48
      go_wp2_with fail
      refine (k1.out).mono ?_
      rintro ee w1 ⟨rfl, hb1⟩
      have hs1 := hb1.size
      have hbl := HAT.out.lt (T.enc_ne t)
      have hst : ClRel R N w (.slice (some ⟨b, off, none⟩) len cap) (.int .i64 (N : Int)) (.slice (some ⟨w1.heap.size, 0, none⟩) 1 1) (.int .i64 (0 : Nat)) (w1.alloc (.cells #[.int .i64 N] 3)) := by
        refine ⟨0, N, t, Nat.zero_le _, Nat.le_refl _, hN9, H1.out, rfl, rfl, ?_, hb1.alloc hs1 _, w1.heap.size, 1, ?_, ?_, b, off, cap, ?_, ?_, hm, (HAT.out.below hb1 hbl).alloc (T.enc_ne t) _, by omega⟩
        · rw [HR.out]; exact T.riseFrom.start 3000 N t
        · rw [show N + 1 - N = 1 by omega]
        · rw [up_one, show N + 1 - N = 1 by omega]
          exact World.ownsRow_lit w1 _ 1 hs1 (by simp [maxLen]) rfl
        · rw [← HN.out]
        · rw [← HN.out]; exact hc
      have Hst := Lib.hid hst
      clear hb1 hst
      go_wp2_with fail
      refine (ks.out _).mono ?_
      rintro ee wx ⟨rfl, rfl⟩
      go_wp2_with fail
      go_loopw [0, 1, 7, 8] (fun v0 v1 v7 v8 wr => ClRel R N w v0 v1 v7 v8 wr) (fun _ _ _ v8 _ => 3000 - (intOf v8).toNat)
      case atStart => exact Hst.out
      case round =>
        obtain ⟨m, nn, tm, hm2, hn0, hn9, hvm, rfl, rfl, hrf, hb, g, c, rfl, ho, bb, off', c', rfl, hle, hcm', hata, hne⟩ := hrel
        have Hrf := Lib.hid hrf
        have HB := Lib.hid hb
        have HVM := Lib.hid hvm
        have HO := Lib.hid ho
        have HNE := Lib.hid hne
        have HATA := Lib.hid hata
        obtain ⟨ln, hln⟩ : ∃ ln, ln = tm.enc.length := ⟨_, rfl⟩
        rw [← hln] at hle ⊢
        have HLN := Lib.hid hln
        have hbbl := hata.lt (T.enc_ne tm)
        have hl60 : ln ≤ 60 := by rw [hln]; exact (T.vldB_true.1 hvm).1
        have kz := Lib.hid (fun wx (hx : At wx bb off' tm.enc) => isZero_any bb off' ln c' (tm.cnt : Int) wx (by rw [hln, T.enc_len]; omega) hx.head)
        clear hrf hb hvm ho hne hata hln
        by_cases htz : tm.cnt = 0
        · have hzb : ((tm.cnt : Int) == 0) = true := by rw [htz]; rfl
          have HE := Lib.hid (Hrf.out.done (T.cnt_zero htz))
          rw [hzb] at kz
          clear htz hzb
          go_wp2_with fail
          refine (kz.out _ HATA.out).mono ?_
          rintro ee wx ⟨rfl, rfl⟩
          go_wp2_with fail
          refine (kz.out _ HATA.out).mono ?_
          rintro ee wx ⟨rfl, rfl⟩
          go_wp2_with fail
          go_ret3
          exact .inr ⟨nn, m, _, c, HE.out, hn0, hn9, rfl, HO.out, HB.out⟩
        · have hzb : ((tm.cnt : Int) == 0) = false := by simpa using htz
          have hz : tm ≠ .z := fun h => htz (by rw [h]; rfl)
          have HZ := Lib.hid hz
          rw [hzb] at kz
          clear htz hzb hz
          by_cases hlt : m < 3000
          · have hlt2 : (m : Int) < 3000 := by omega
            have kg := Lib.hid (fun wx (hx : Below wr.heap.size wr wx) => growthAt_any bb off' ln c' tm wx HLN.out (by omega) hle hcm' (HATA.out.below hx hbbl))
            have kd := Lib.hid (fun wx (hx : Below wr.heap.size wr wx) => stepDown_any (nn : Int) (by omega) (by omega) bb off' ln c' tm wx HLN.out hl60 hle hcm' (HATA.out.below hx hbbl) (T.nf_enc HVM.out))
            obtain ⟨nr, hnr⟩ : ∃ nr, nr = T.fit (tm.step nn) := ⟨_, rfl⟩
            obtain ⟨no, hno⟩ : ∃ no, no = T.vldB (tm.step nn).enc := ⟨_, rfl⟩
            unfold OrdOkPost at kd
            rw [← hnr, ← hno] at kd
            have Hnr := Lib.hid hnr
            have Hno := Lib.hid hno
            have hgl : g < wr.heap.size := (HO.out.lt g rfl).2
            have hws := HB.out.size
            clear hnr hno
            by_cases hkd : tm.kind = 1
            · simp only [if_pos hkd] at kg
              have HKD := Lib.hid hkd
              clear hkd
              by_cases h90 : nn < 90
              · have ko := Lib.hid (fun w => oneMore1_yes nn w h90)
                have hgt : ((nn : Int) : Int) < ((nn + 1 : Nat) : Int) := by omega
                go_wp2_with fail
                refine (kz.out _ HATA.out).mono ?_
                rintro ee wx ⟨rfl, rfl⟩
                go_wp2_with fail
                refine (kg.out _ (Below.refl _ _)).mono ?_
                rintro ee w2 ⟨rfl, hb2⟩
                have Hb2 := Lib.hid hb2
                have hs2 := hb2.size
                have kd2 := Lib.hid (kd.out w2 hb2)
                clear hb2
                go_wp2_with fail
                refine (ko.out w2).mono ?_
                rintro ee wx ⟨rfl, rfl⟩
                go_wp2_with fail
                refine (kd2.out).mono ?_
                rintro ee w3 ⟨a3, c3, rfl, ho3, hb3⟩
                have Hb3 := Lib.hid ((HB.out.trans (Hb2.out.mono hws)).trans (hb3.mono (by omega)))
                have Ho3 := Lib.hid ho3
                have HoP := Lib.hid (ownsRow_below' (ownsRow_below' HO.out Hb2.out) hb3)
                have hs3 := hb3.size
                clear ho3 hb3
                cases hno2 : no with
                | false =>
                  have HE := Lib.hid (Hrf.out.bad HZ.out (.inr (.inl (by rw [← Hno.out, hno2]))))
                  clear hno2
                  go_wp2_with fail
                  go_ret3
                  exact .inl ⟨HE.out, rfl, Hb3.out⟩
                | true =>
                  have hvn : T.vldB (tm.step nn).enc = true := by rw [← Hno.out, hno2]
                  have hfe : nr = (tm.step nn).enc := by rw [Hnr.out, T.fit, if_pos hvn]
                  have ho3 := Ho3.out
                  rw [hfe] at ho3
                  obtain ⟨g2, rfl, hg2, hatn, hcn, hcmn⟩ := own_rowT ho3
                  obtain ⟨gq, hgq⟩ : ∃ gq, 3000 - m = gq + 1 := ⟨3000 - m - 1, by omega⟩
                  have hrf := Hrf.out
                  rw [hgq] at hrf
                  have hnx := (hrf.next HZ.out hvn).1 HKD.out h90
                  rw [show gq = 3000 - (m + 1) by omega] at hnx
                  have Hnx := Lib.hid hnx
                  have Hvn := Lib.hid hvn
                  have Hfe := Lib.hid hfe
                  have Hat := Lib.hid hatn
                  have Hcn := Lib.hid hcn
                  clear hno2 hvn hfe ho3 hatn hcn hnx hrf hgq
                  go_wp2_with (first
                    | (at_builtin; refine wpList_append_own_at _ rfl (.tmp 51) (.tmp 53) 23 rfl w.heap.size 3 i0 (.int .i64 0) 1 8 Try.underlying23 hi hz0 hz1 hz2 rfl (by decide) _ (nn + 1 - N) (ints (T.up N (nn + 1 - N))) rfl (HoP.out.alloc _) ⟨w3.heap.size, 0, none⟩ 1 1 [.int .i64 ((nn + 1 : Nat) : Int)] rfl rfl (cell_one_new _ _ _) (ints_oneCell _ [((nn + 1 : Nat) : Int)]) (by unfold maxLen; omega) (by omega) (by simp; omega) ?_; intro v7 w4 ho4 hg4 _ hob4))
                  obtain ⟨g7, c7, rfl⟩ := Joins.ownsRow_form ho4 (by omega)
                  have hg2l := Hat.out.lt (T.enc_ne _)
                  have hb4 : Below w.heap.size w w4 := (Hb3.out.alloc (by omega) _).grown hg4 (by simp; omega) (fun k e => by cases e; exact (HO.out.lt g rfl).1)
                  have hfin : ClRel R N w (.slice (some ⟨g2, 0, none⟩) nr.length c3) (.int .i64 ((nn + 1 : Nat) : Int)) (.slice (some ⟨g7, 0, none⟩) (nn + 1 - N + 1) c7) (.int .i64 ((m + 1 : Nat) : Int)) w4 := by
                    refine ⟨m + 1, nn + 1, tm.step nn, by omega, by omega, by omega, Hvn.out, rfl, rfl, Hnx.out, hb4, g7, c7, ?_, ?_, g2, 0, c3, by rw [Hfe.out], Hcn.out, hcmn, (Hat.out.alloc (T.enc_ne _) _).past hg4 (fun e => by have h8 : g2 = g := Option.some.inj e; omega), ?_⟩
                    · rw [show nn + 1 + 1 - N = nn + 1 - N + 1 by omega]
                    · rw [show nn + 1 + 1 - N = nn + 1 - N + 1 by omega, ← T.up_snoc, show N + (nn + 1 - N) = nn + 1 by omega]
                      simpa [ints] using ho4
                    · rcases hob4 with h9 | h9
                      · have h8 : g7 = g := Option.some.inj h9
                        omega
                      · have h8 : g7 = (w3.alloc (.cells #[.int .i64 ((nn + 1 : Nat) : Int)] 3)).heap.size := Option.some.inj h9
                        rw [World.size_alloc] at h8
                        omega
                  have Hfin := Lib.hid hfin
                  clear hfin hb4 ho4 hg4 hob4
                  go_wp2_with fail
                  go_roundw
                  case rel => have h := Hfin.out; simpa using h
                  case measure => simp [intOf]; omega
              · have ko := Lib.hid (fun w => oneMore1_no nn w hn9 (by omega))
                have HE := Lib.hid (Hrf.out.bad HZ.out (.inr (.inr ⟨HKD.out, by omega⟩)))
                go_wp2_with fail
                refine (kz.out _ HATA.out).mono ?_
                rintro ee wx ⟨rfl, rfl⟩
                go_wp2_with fail
                refine (kg.out _ (Below.refl _ _)).mono ?_
                rintro ee w2 ⟨rfl, hb2⟩
                have Hb2 := Lib.hid hb2
                have hs2 := hb2.size
                have kd2 := Lib.hid (kd.out w2 hb2)
                clear hb2
                go_wp2_with fail
                refine (ko.out w2).mono ?_
                rintro ee wx ⟨rfl, rfl⟩
                go_wp2_with fail
                refine (kd2.out).mono ?_
                rintro ee w3 ⟨a3, c3, rfl, ho3, hb3⟩
                have Hb3 := Lib.hid ((HB.out.trans (Hb2.out.mono hws)).trans (hb3.mono (by omega)))
                have Ho3 := Lib.hid ho3
                have HoP := Lib.hid (ownsRow_below' (ownsRow_below' HO.out Hb2.out) hb3)
                have hs3 := hb3.size
                clear ho3 hb3
                cases hno2 : no with
                | false =>
                  clear hno2
                  go_wp2_with fail
                  go_ret3
                  exact .inl ⟨HE.out, rfl, Hb3.out⟩
                | true =>
                  clear hno2
                  go_wp2_with fail
                  go_ret3
                  exact .inl ⟨HE.out, rfl, Hb3.out⟩
            · simp only [if_neg hkd] at kg
              have HKD := Lib.hid hkd
              clear hkd
              have ko := Lib.hid (fun w => unchanged1_any nn w)
              go_wp2_with fail
              refine (kz.out _ HATA.out).mono ?_
              rintro ee wx ⟨rfl, rfl⟩
              go_wp2_with fail
              refine (kg.out _ (Below.refl _ _)).mono ?_
              rintro ee w2 ⟨rfl, hb2⟩
              have Hb2 := Lib.hid hb2
              have hs2 := hb2.size
              have kd2 := Lib.hid (kd.out w2 hb2)
              clear hb2
              go_wp2_with fail
              refine (ko.out w2).mono ?_
              rintro ee wx ⟨rfl, rfl⟩
              go_wp2_with fail
              refine (kd2.out).mono ?_
              rintro ee w3 ⟨a3, c3, rfl, ho3, hb3⟩
              have Hb3 := Lib.hid ((HB.out.trans (Hb2.out.mono hws)).trans (hb3.mono (by omega)))
              have Ho3 := Lib.hid ho3
              have HoP := Lib.hid (ownsRow_below' (ownsRow_below' HO.out Hb2.out) hb3)
              have hs3 := hb3.size
              clear ho3 hb3
              cases hno2 : no with
              | false =>
                have HE := Lib.hid (Hrf.out.bad HZ.out (.inr (.inl (by rw [← Hno.out, hno2]))))
                clear hno2
                go_wp2_with fail
                go_ret3
                exact .inl ⟨HE.out, rfl, Hb3.out⟩
              | true =>
                have hvn : T.vldB (tm.step nn).enc = true := by rw [← Hno.out, hno2]
                have hfe : nr = (tm.step nn).enc := by rw [Hnr.out, T.fit, if_pos hvn]
                have ho3 := Ho3.out
                rw [hfe] at ho3
                obtain ⟨g2, rfl, hg2, hatn, hcn, hcmn⟩ := own_rowT ho3
                obtain ⟨gq, hgq⟩ : ∃ gq, 3000 - m = gq + 1 := ⟨3000 - m - 1, by omega⟩
                have hrf := Hrf.out
                rw [hgq] at hrf
                have hnx := (hrf.next HZ.out hvn).2 HKD.out
                rw [show gq = 3000 - (m + 1) by omega] at hnx
                have Hnx := Lib.hid hnx
                have Hvn := Lib.hid hvn
                have Hfe := Lib.hid hfe
                have Hat := Lib.hid hatn
                have Hcn := Lib.hid hcn
                clear hno2 hvn hfe ho3 hatn hcn hnx hrf hgq
                have hfin : ClRel R N w (.slice (some ⟨g2, 0, none⟩) nr.length c3) (.int .i64 (nn : Int)) (.slice (some ⟨g, 0, none⟩) (nn + 1 - N) c) (.int .i64 ((m + 1 : Nat) : Int)) w3 :=
                  ⟨m + 1, nn, tm.step nn, by omega, by omega, by omega, Hvn.out, rfl, rfl, Hnx.out, Hb3.out, g, c, rfl, HoP.out, g2, 0, c3, by rw [Hfe.out], Hcn.out, hcmn, Hat.out, by omega⟩
                have Hfin := Lib.hid hfin
                clear hfin
                go_wp2_with fail
                go_roundw
                case rel => have h := Hfin.out; simpa using h
                case measure => simp [intOf]; omega
          · have hlt2 : ¬ (m : Int) < 3000 := by omega
            have HE := Lib.hid (Hrf.out.bad HZ.out (.inl (by omega)))
            go_wp2_with fail
            refine (kz.out _ HATA.out).mono ?_
            rintro ee wx ⟨rfl, rfl⟩
            go_wp2_with fail
            refine (kz.out _ HATA.out).mono ?_
            rintro ee wx ⟨rfl, rfl⟩
            go_wp2_with fail
            go_ret3
            exact .inl ⟨HE.out, rfl, HB.out⟩
    · rw [decide_eq_false hin] at ks
      rw [T.growP_bad (xs := xs) (n := n) (.inr hin)]
      clear h h1 hin _hn0 _hn1
      go_enter Try.func48, Try.ntmps48
      go_wp2_with fail
      refine (k1.out).mono ?_
      rintro ee w1 ⟨rfl, hb1⟩
      have Hb1 := Lib.hid hb1
      clear hb1
      go_wp2_with fail
      refine (ks.out _).mono ?_
      rintro ee w2 ⟨rfl, rfl⟩
      go_wp2_with fail
      go_ret3
      exact .inl ⟨rfl, rfl, Hb1.out⟩
  · have k1 := Lib.hid (impl_valid ao len cap xs w h h1)
    rw [T.growP_bad (xs := xs) (n := n) (.inl h1)]
    clear h h1 _hn0 _hn1
    go_enter Try.func48, Try.ntmps48
    go_wp2_with fail
    refine (k1.out).mono ?_
    rintro ee w1 ⟨rfl, hb1⟩
    have Hb1 := Lib.hid hb1
    clear hb1
    go_wp2_with fail
    go_ret3
    exact .inl ⟨rfl, rfl, Hb1.out⟩

theorem up_last (n k : Nat) (h : 0 < k) : (ints (T.up n k))[k - 1]? = some (.int .i64 ((n + (k - 1) : Nat) : Int)) := by
  simp only [ints, T.up, List.getElem?_map, List.getElem?_range (show k - 1 < k by omega), Option.map_some]

set_option maxHeartbeats 4000000 in
theorem impl_Grow (ao : Option Addr) (len cap : Nat) (xs : List Int) (n : Int) (w : World) (h : Sl w ao len cap xs) (hn0 : -9223372036854775808 ≤ n) (hn1 : n ≤ 9223372036854775807) :
    Calls Try.prog 12 #[.slice ao len cap, .int .i64 n] w fun e w' => e = .returned (.tuple #[.int .i64 (T.growE xs n), .int .i64 (T.growS xs n)]) ∧ Below w.heap.size w w' := by
  have k1 := Lib.hid (climb_any ao len cap xs n w h hn0 hn1)
  unfold T.growE T.growS
  obtain ⟨R, hR⟩ : ∃ R, R = T.growP xs n := ⟨_, rfl⟩
  obtain ⟨N, hN⟩ : ∃ N, N = n.toNat := ⟨_, rfl⟩
  rw [← hR] at k1 ⊢
  rw [← hN] at k1
  clear h hn0 hn1 hR hN
  go_enter Try.func12, Try.ntmps12
  go_wp2_with fail
  refine (k1.out).mono ?_
  rintro ee w1 (⟨rfl, rfl, hb⟩ | ⟨m, s, a, c, rfl, hm1, hm2, rfl, ho, hb⟩)
  · have Hb := Lib.hid hb
    clear hb
    go_wp2_with fail
    go_ret2
    exact ⟨rfl, Hb.out⟩
  · obtain ⟨g, c', hf⟩ := Joins.ownsRow_form ho (by omega)
    simp only [Value.slice.injEq] at hf
    obtain ⟨rfl, _, rfl⟩ := hf
    have z1 : w1.cell? ⟨g, m + 1 - N - 1, none⟩ = some (.int .i64 (m : Int)) := by
      rw [ho.cellAt _ (by omega), up_last _ _ (by omega), show N + (m + 1 - N - 1) = m by omega]
    have Hb := Lib.hid hb
    obtain ⟨k, hk⟩ : ∃ k, k = m + 1 - N := ⟨_, rfl⟩
    rw [← hk] at z1 ⊢
    have hk1 : 1 ≤ k := by omega
    have hk2 : k ≤ 91 := by omega
    clear hb ho hk
    go_wp2_with fail
    go_ret2
    exact ⟨rfl, Hb.out⟩

set_option maxHeartbeats 4000000 in
theorem impl_GrowPath (ao : Option Addr) (len cap : Nat) (xs : List Int) (n : Int) (w : World) (h : Sl w ao len cap xs) (hn0 : -9223372036854775808 ≤ n) (hn1 : n ≤ 9223372036854775807) :
    Calls Try.prog 25 #[.slice ao len cap, .int .i64 n] w (GPost w (T.growRow xs n)) := by
  have k1 := Lib.hid (climb_any ao len cap xs n w h hn0 hn1)
  unfold T.growRow
  obtain ⟨R, hR⟩ : ∃ R, R = T.growP xs n := ⟨_, rfl⟩
  obtain ⟨N, hN⟩ : ∃ N, N = n.toNat := ⟨_, rfl⟩
  rw [← hR] at k1 ⊢
  rw [← hN] at k1 ⊢
  clear h hn0 hn1 hR hN
  go_enter Try.func25, Try.ntmps25
  go_wp2_with fail
  refine (k1.out).mono ?_
  rintro ee w1 (⟨rfl, rfl, hb⟩ | ⟨m, s, a, c, rfl, hm1, hm2, rfl, ho, hb⟩)
  · have Hb := Lib.hid hb
    clear hb
    go_wp2_with fail
    go_ret
    exact ⟨none, 0, rfl, ⟨rfl, .inl ⟨rfl, rfl⟩⟩, Hb.out⟩
  · have Hb := Lib.hid hb
    have Ho := Lib.hid ho
    clear hb ho
    go_wp2_with fail
    go_ret
    refine ⟨a, c, ?_, ?_, Hb.out⟩
    · simp only [T.pathI, T.up_len]; rfl
    · simp only [T.pathI, T.up_len]; exact Ho.out
end Go.Proofs.Ythalogciiochfaa

/- LeastM -/
/- The simple ordinals of GrowLeast, in their order. -/
namespace Go.Proofs.Ythalogciiochfaa
set_option maxRecDepth 100000
namespace T

/-- A number, as an ordinal. -/
def nN (l : Nat) : T := if l = 0 then z else c l z z
/-- The simple ordinals, the least one first. -/
def sO (i : Nat) : T := if i < 19 then nN i else c (((i - 19) % 90 / 10 + 1 : Nat) : Int) (nN ((i - 19) / 90 + 1)) (nN ((i - 19) % 10))
def sI (k a b : Nat) : Nat := if a = 0 then b else if k = 0 then a + b else 19 + (k - 1) * 90 + (a - 1) * 10 + b
def sF (k a : Nat) : T := if a = 0 then z else c (a : Int) (nN k) z
theorem nN_s (l : Nat) : nN (l + 1) = c ((l + 1 : Nat) : Int) z z := rfl
theorem nN_nf {l : Nat} (h : l ≤ 9999) : (nN l).Nf := by
  cases l with
  | zero => trivial
  | succ l => rw [nN_s]; exact ⟨by omega, by omega, trivial, trivial, ok_z _⟩
theorem nN_len (l : Nat) : (nN l).enc.length ≤ 3 := by
  cases l with
  | zero => simp [nN, enc, body]
  | succ l => rw [nN_s]; simp [enc, body]
theorem sI_lt {k a b : Nat} (hk : k ≤ 2) (ha : a ≤ 9) (hb : b ≤ 9) : sI k a b < 199 := by
  unfold sI
  split
  · omega
  · split
    · omega
    · have : (k - 1) * 90 ≤ 90 := by
        have := Nat.mul_le_mul_right 90 (show k - 1 ≤ 1 by omega)
        omega
      omega
theorem sI_all {i : Nat} (h : i < 199) : ∃ k a b, k ≤ 2 ∧ a ≤ 9 ∧ b ≤ 9 ∧ sI k a b = i := by
  by_cases h1 : i < 10
  · exact ⟨0, 0, i, by omega, by omega, by omega, rfl⟩
  · by_cases h2 : i < 19
    · exact ⟨0, 9, i - 9, by omega, by omega, by omega, by rw [sI, if_neg (by omega), if_pos rfl]; omega⟩
    · refine ⟨(i - 19) / 90 + 1, (i - 19) % 90 / 10 + 1, (i - 19) % 10, by omega, by omega, by omega, ?_⟩
      unfold sI
      rw [if_neg (by omega), if_neg (by omega)]
      omega
theorem add_small {a b : Int} : add (c a z z) (c b z z) = c (b + a) z z := rfl
theorem add_pow {a b k : Int} : add (c a (c k z z) z) (c b z z) = c a (c k z z) (c b z z) := rfl
theorem sF_add {k a b : Nat} (hk : k ≤ 2) (ha : a ≤ 9) (hb : b ≤ 9) : add (sF k a) (nN b) = sO (sI k a b) := by
  unfold sF sI
  by_cases h0 : a = 0
  · rw [if_pos h0, if_pos h0]
    unfold sO
    rw [if_pos (by omega)]
    cases b with
    | zero => rfl
    | succ b => rfl
  · rw [if_neg h0, if_neg h0]
    cases k with
    | zero =>
      rw [if_pos rfl]
      unfold sO
      rw [if_pos (by omega)]
      obtain ⟨A, rfl⟩ : ∃ A, a = A + 1 := ⟨a - 1, by omega⟩
      cases b with
      | zero => rfl
      | succ b =>
        rw [nN_s, show A + 1 + (b + 1) = A + b + 1 + 1 by omega, nN_s, show nN 0 = z from rfl, add_small]
        congr 1
        omega
    | succ k =>
      rw [if_neg (by omega)]
      unfold sO
      have e0 : ¬ 19 + (k + 1 - 1) * 90 + (a - 1) * 10 + b < 19 := by omega
      have hkk : k = 0 ∨ k = 1 := by omega
      have e1 : (19 + (k + 1 - 1) * 90 + (a - 1) * 10 + b - 19) / 90 + 1 = k + 1 := by
        rcases hkk with rfl | rfl <;> omega
      have e2 : (19 + (k + 1 - 1) * 90 + (a - 1) * 10 + b - 19) % 90 / 10 + 1 = a := by
        rcases hkk with rfl | rfl <;> omega
      have e3 : (19 + (k + 1 - 1) * 90 + (a - 1) * 10 + b - 19) % 10 = b := by
        rcases hkk with rfl | rfl <;> omega
      rw [if_neg e0, e1, e2, e3]
      cases b with
      | zero => rfl
      | succ b => rw [nN_s, nN_s, add_pow]
theorem sO_nf {i : Nat} (h : i < 199) : (sO i).Nf := by
  unfold sO
  split
  · exact nN_nf (by omega)
  · refine ⟨by omega, by omega, nN_nf (by omega), nN_nf (by omega), ?_⟩
    generalize (i - 19) % 10 = b
    cases b with
    | zero => exact ok_z _
    | succ b =>
      rw [nN_s, nN_s]
      exact ok_c.2 rfl
theorem sO_len (i : Nat) : (sO i).enc.length ≤ 8 := by
  unfold sO
  split
  · have := nN_len i; omega
  · rw [enc_len, body_c]
    have h1 := nN_len ((i - 19) / 90 + 1)
    have h2 := nN_len ((i - 19) % 10)
    rw [enc_len] at h2
    simp only [List.length_cons, List.length_append]
    omega
theorem sO_vld {i : Nat} (h : i < 199) : vldB (sO i).enc = true := vldB_true.2 ⟨by have := sO_len i; omega, _, rfl, sO_nf h⟩
theorem nN_cmp {i j : Nat} (h : i < j) : (nN i).cmp (nN j) = -1 := by
  obtain ⟨J, rfl⟩ : ∃ J, j = J + 1 := ⟨j - 1, by omega⟩
  cases i with
  | zero => rfl
  | succ i =>
    rw [nN_s, nN_s]
    exact cmp_less _ _ _ (by omega)
theorem sO_cmp {i j : Nat} (h : i < j) (hj : j < 199) : (sO i).cmp (sO j) = -1 := by
  unfold sO
  split
  · split
    · exact nN_cmp h
    · cases i with
      | zero => rfl
      | succ i => rw [nN_s, nN_s]; exact cmp_lt rfl
  · rw [if_neg (by omega)]
    by_cases h1 : (i - 19) / 90 = (j - 19) / 90
    · rw [h1]
      by_cases h2 : (i - 19) % 90 / 10 = (j - 19) % 90 / 10
      · rw [h2, cmp_same]
        exact nN_cmp (by omega)
      · exact cmp_less _ _ _ (by omega)
    · exact cmp_lt (nN_cmp (by omega))

/-- The goal is reached along the i-th one. -/
def hit (n goal : Int) (i : Nat) : Prop := goal ≤ growE (sO i).enc n
noncomputable instance (n goal : Int) (i : Nat) : Decidable (hit n goal i) := inferInstanceAs (Decidable (goal ≤ growE (sO i).enc n))
noncomputable def leastI (n goal : Int) : Option Nat := (List.range 199).find? (fun i => decide (hit n goal i))
noncomputable def leastRow (n goal : Int) : List Int := if (1 ≤ n ∧ n ≤ 90) ∧ 1 ≤ goal ∧ goal ≤ 90 then (match leastI n goal with | some i => (sO i).enc | none => []) else []
noncomputable def leastOk (n goal : Int) : Bool := if (1 ≤ n ∧ n ≤ 90) ∧ 1 ≤ goal ∧ goal ≤ 90 then (leastI n goal).isSome else false
theorem leastI_some {n goal : Int} {i : Nat} (h : i < 199) (hi : hit n goal i) (hl : ∀ j, j < i → ¬ hit n goal j) : leastI n goal = some i := by
  rw [leastI, List.find?_range_eq_some]
  refine ⟨by simpa using hi, by simpa using h, fun j hj => by simpa using hl j hj⟩
theorem leastI_none {n goal : Int} (hl : ∀ j, j < 199 → ¬ hit n goal j) : leastI n goal = none := by
  rw [leastI, List.find?_range_eq_none]
  intro j hj
  simpa using hl j hj
theorem leastRow_len (n goal : Int) : (leastRow n goal).length ≤ 8 := by
  unfold leastRow
  split
  · split
    · exact sO_len _
    · simp
  · simp

/-- What the triple loop has found so far. -/
def Best (n goal : Int) (best : Option Nat) (k a b : Nat) : Prop :=
  (∀ k' a' b', k' ≤ 2 → a' ≤ 9 → b' ≤ 9 → (k' < k ∨ (k' = k ∧ (a' < a ∨ (a' = a ∧ b' < b)))) → hit n goal (sI k' a' b') → ∃ i, best = some i ∧ i ≤ sI k' a' b') ∧ (∀ i, best = some i → i < 199 ∧ hit n goal i)
theorem Best.start (n goal : Int) : Best n goal none 0 0 0 := ⟨fun k' a' b' _ _ _ h => by omega, fun i h => by cases h⟩
theorem Best.nextA {n goal : Int} {best : Option Nat} {k a : Nat} (h : Best n goal best k a 10) : Best n goal best k (a + 1) 0 :=
  ⟨fun k' a' b' h1 h2 h3 h4 => h.1 k' a' b' h1 h2 h3 (by omega), h.2⟩
theorem Best.nextK {n goal : Int} {best : Option Nat} {k : Nat} (h : Best n goal best k 10 0) : Best n goal best (k + 1) 0 0 :=
  ⟨fun k' a' b' h1 h2 h3 h4 => h.1 k' a' b' h1 h2 h3 (by omega), h.2⟩
theorem Best.miss {n goal : Int} {best : Option Nat} {k a b : Nat} (h : Best n goal best k a b) (hm : ¬ hit n goal (sI k a b)) : Best n goal best k a (b + 1) := by
  refine ⟨fun k' a' b' h1 h2 h3 h4 h5 => ?_, h.2⟩
  by_cases he : k' = k ∧ a' = a ∧ b' = b
  · obtain ⟨rfl, rfl, rfl⟩ := he
    exact absurd h5 hm
  · exact h.1 k' a' b' h1 h2 h3 (by omega) h5
theorem Best.keep {n goal : Int} {j k a b : Nat} (h : Best n goal (some j) k a b) (hm : j ≤ sI k a b) : Best n goal (some j) k a (b + 1) := by
  refine ⟨fun k' a' b' h1 h2 h3 h4 h5 => ?_, h.2⟩
  by_cases he : k' = k ∧ a' = a ∧ b' = b
  · obtain ⟨rfl, rfl, rfl⟩ := he
    exact ⟨j, rfl, hm⟩
  · exact h.1 k' a' b' h1 h2 h3 (by omega) h5
theorem Best.take {n goal : Int} {best : Option Nat} {k a b : Nat} (h : Best n goal best k a b) (hk : k ≤ 2) (ha : a ≤ 9) (hb : b ≤ 9) (hh : hit n goal (sI k a b)) (hm : ∀ j, best = some j → sI k a b ≤ j) : Best n goal (some (sI k a b)) k a (b + 1) := by
  refine ⟨fun k' a' b' h1 h2 h3 h4 h5 => ?_, fun i hi => by cases hi; exact ⟨sI_lt hk ha hb, hh⟩⟩
  by_cases he : k' = k ∧ a' = a ∧ b' = b
  · obtain ⟨rfl, rfl, rfl⟩ := he
    exact ⟨_, rfl, Nat.le_refl _⟩
  · obtain ⟨i, h6, h7⟩ := h.1 k' a' b' h1 h2 h3 (by omega) h5
    exact ⟨_, rfl, Nat.le_trans (hm i h6) h7⟩
theorem Best.done {n goal : Int} {best : Option Nat} (h : Best n goal best 3 0 0) : leastI n goal = best := by
  cases best with
  | none =>
    refine leastI_none fun j hj hh => ?_
    obtain ⟨k, a, b, h1, h2, h3, rfl⟩ := sI_all hj
    obtain ⟨i, h4, _⟩ := h.1 k a b h1 h2 h3 (by omega) hh
    cases h4
  | some i =>
    obtain ⟨h1, h2⟩ := h.2 i rfl
    refine leastI_some h1 h2 fun j hj hh => ?_
    obtain ⟨k, a, b, h3, h4, h5, rfl⟩ := sI_all (show j < 199 by omega)
    obtain ⟨i', h6, h7⟩ := h.1 k a b h3 h4 h5 (by omega) hh
    cases h6
    omega

end T
end Go.Proofs.Ythalogciiochfaa

/- LeastS -/
/- GrowLeast of the model. -/
namespace Go.Proofs.Ythalogciiochfaa
set_option maxRecDepth 100000
open Go.RowKit

def bestRow : Option Nat → List Int
  | some i => (T.sO i).enc
  | none => []
theorem bestRow_len (b : Option Nat) : (bestRow b).length ≤ 8 := by
  cases b with
  | none => simp [bestRow]
  | some i => exact T.sO_len i
def LsRow (w : World) (best : Option Nat) (v6 : Value) (wr : World) : Prop :=
  (∃ a c, v6 = .slice a (bestRow best).length c ∧ wr.ownsRow w.heap.size 3 1 (.slice a (bestRow best).length c) (bestRow best).length (ints (bestRow best))) ∧ Below w.heap.size w wr
theorem num_nN {k : Nat} (h : k ≤ 9999) : T.num' (k : Int) = (T.nN k).enc := by
  cases k with
  | zero => rfl
  | succ k => rw [T.num'_enc (by omega) (by omega)]; rfl
/-- Of the form that a call leaves a row in. -/
theorem own_row2 {w : World} {B : Nat} {t : T} {ao : Option Addr} {c : Nat} (h : w.ownsRow B 3 1 (.slice ao t.enc.length c) t.enc.length (ints t.enc)) :
    ∃ g, ao = some ⟨g, 0, none⟩ ∧ B ≤ g ∧ At w g 0 t.enc ∧ t.enc.length ≤ c ∧ c ≤ maxLen := own_rowT h
theorem T.sF_enc1 {k a : Nat} (ha : a ≠ 0) (hk : k ≤ 9) : [(1 : Int), (a : Int)] ++ T.num' (k : Int) = (T.sF k a).enc := by
  rw [num_nN (by omega), T.sF, if_neg ha]
  simp [T.enc, T.body, T.cnt]
theorem T.sF_nf {k a : Nat} (ha : a ≤ 9) (hk : k ≤ 9) : (T.sF k a).Nf := by
  unfold T.sF
  split
  · trivial
  · exact ⟨by omega, by omega, T.nN_nf (by omega), trivial, T.ok_z _⟩
theorem T.sF_len (k a : Nat) : (T.sF k a).enc.length ≤ 5 := by
  unfold T.sF
  split
  · simp [T.enc, T.body]
  · have := T.nN_len k
    rw [T.enc_len, T.body_c]
    simp only [List.length_cons, List.length_append, T.body, List.length_nil]
    omega

/-- The head of the sum that is tried. -/
def FsRel (k a : Nat) (wr : World) (v10 : Value) (wx : World) : Prop :=
  ∃ g c, v10 = .slice (some ⟨g, 0, none⟩) (T.sF k a).enc.length c ∧ wx.ownsRow wr.heap.size 3 1 (.slice (some ⟨g, 0, none⟩) (T.sF k a).enc.length c) (T.sF k a).enc.length (ints (T.sF k a).enc) ∧ Below wr.heap.size wr wx

set_option maxRecDepth 100000 in
set_option maxHeartbeats 8000000 in
theorem spec_GrowLeast (n goal : Int) (w : World) (hn0 : -9223372036854775808 ≤ n) (hn1 : n ≤ 9223372036854775807) (_hg0 : -9223372036854775808 ≤ goal) (_hg1 : goal ≤ 9223372036854775807) :
    Calls Try.prog 29 #[.int .i64 n, .int .i64 goal] w (OrdOkPost w (T.leastRow n goal) (T.leastOk n goal)) := by
  have Hlit := Lib.hid (show (w.alloc (.cells #[] 3)).ownsRow w.heap.size 3 1 (.slice (some ⟨w.heap.size, 0, none⟩) 0 0) 0 (ints []) from World.ownsRow_lit w #[] 0 (Nat.le_refl _) (by simp [maxLen]) rfl)
  have Hlb := Lib.hid ((Below.refl w.heap.size w).alloc (Nat.le_refl _) (.cells #[] 3))
  obtain ⟨i0, hi, hz0, hz1, hz2⟩ := info_parts info_int
  by_cases h1 : 1 ≤ n ∧ n ≤ 90
  · by_cases h2 : 1 ≤ goal ∧ goal ≤ 90
    · have k1 := Lib.hid (fun w => l1In_yes n 1 90 w h1.1 h1.2)
      have k2 := Lib.hid (fun w => l1In_yes goal 1 90 w h2.1 h2.2)
      have hfin : ∀ best, T.Best n goal best 3 0 0 → T.leastRow n goal = bestRow best ∧ T.leastOk n goal = best.isSome := fun best hb => by
        rw [T.leastRow, T.leastOk, if_pos ⟨h1, h2⟩, if_pos ⟨h1, h2⟩, hb.done]
        cases best <;> exact ⟨rfl, rfl⟩
      have Hfin := Lib.hid hfin
      obtain ⟨R, hR⟩ : ∃ R, R = T.leastRow n goal := ⟨_, rfl⟩
      obtain ⟨O, hO⟩ : ∃ O, O = T.leastOk n goal := ⟨_, rfl⟩
      rw [← hR, ← hO] at Hfin ⊢
      clear hfin hR hO _hg0 _hg1
      go_enter Try.func29, Try.ntmps29
      go_wp2_with fail
      refine (k1.out _).mono ?_
      rintro ee wx ⟨rfl, rfl⟩
      go_wp2_with fail
      refine (k2.out _).mono ?_
      rintro ee wx ⟨rfl, rfl⟩
      obtain ⟨W, hW⟩ : ∃ W, W = w.alloc (.cells #[] 3) := ⟨_, rfl⟩
      rw [← hW] at Hlit Hlb ⊢
      clear hW
      go_wp2_with fail
      go_loopw [6, 7] (fun v6 v7 wr => ∃ (k : Nat) (best : Option Nat), k ≤ 3 ∧ v7 = .int .i64 k ∧ T.Best n goal best k 0 0 ∧ LsRow w best v6 wr) (fun _ v7 _ => 3 - (intOf v7).toNat)
      case atStart => exact ⟨0, none, by omega, rfl, T.Best.start n goal, ⟨_, _, rfl, Hlit.out⟩, Hlb.out⟩
      case round =>
        obtain ⟨k, best, hk3, rfl, hB, hL⟩ := hrel
        have HB := Lib.hid hB
        have HL := Lib.hid hL
        clear hB
        by_cases hk : k ≤ 2
        · have hk2 : (k : Int) ≤ 2 := by omega
          obtain ⟨⟨a6, c6, rfl, _⟩, _⟩ := hL
          go_wp2_with fail
          go_loopw [6, 8] (fun v6 v8 wr => ∃ (a : Nat) (best : Option Nat), a ≤ 10 ∧ v8 = .int .i64 a ∧ T.Best n goal best k a 0 ∧ LsRow w best v6 wr) (fun _ v8 _ => 10 - (intOf v8).toNat)
          case atStart => exact ⟨0, best, by omega, rfl, HB.out, HL.out⟩
          case round =>
            clear HB HL
            obtain ⟨a, best, ha10, rfl, hB, hL⟩ := hrel
            have HB := Lib.hid hB
            have HL := Lib.hid hL
            clear hB
            by_cases ha : a ≤ 9
            · have ha2 : (a : Int) ≤ 9 := by omega
              obtain ⟨⟨a7, c7, rfl, _⟩, _⟩ := hL
              go_wp2_with fail
              go_loopw [6, 9] (fun v6 v9 wr => ∃ (b : Nat) (best : Option Nat), b ≤ 10 ∧ v9 = .int .i64 b ∧ T.Best n goal best k a b ∧ LsRow w best v6 wr) (fun _ v9 _ => 10 - (intOf v9).toNat)
              case atStart => exact ⟨0, best, by omega, rfl, HB.out, HL.out⟩
              case round =>
                clear HB HL
                obtain ⟨b, best, hb10, rfl, hB, hL⟩ := hrel
                have HB := Lib.hid hB
                obtain ⟨⟨a8, c8, rfl, ho8⟩, hb8⟩ := hL
                have Ho8 := Lib.hid ho8
                have Hb8 := Lib.hid hb8
                have hs8 := hb8.size
                clear hB ho8 hb8
                by_cases hb : b ≤ 9
                · have hb2 : (b : Int) ≤ 9 := by omega
                  have hk9 : k ≤ 9 := by omega
                  have kO1 := Lib.hid (fun wx => spec_OrdOf (k : Int) wx (by omega) (by omega))
                  have kO2 := Lib.hid (fun wx => spec_OrdOf (b : Int) wx (by omega) (by omega))
                  rw [num_nN (by omega)] at kO1 kO2
                  obtain ⟨WR, hWR⟩ : ∃ W, W = wr := ⟨_, rfl⟩
                  go_upto_if 38 with fail
                  go_cut [10] (fun v10 wx => FsRel k a wr v10 wx)
                  case first =>
                    by_cases ha0 : a = 0
                    · have ha1 : ¬ (0 : Int) < (a : Int) := by omega
                      have hfs : FsRel k a wr (.slice (some ⟨wr.heap.size, 0, none⟩) 1 1) (wr.alloc (.cells #[.int .i64 0] 3)) := by
                        have he : T.sF k a = .z := by rw [T.sF, if_pos ha0]
                        unfold FsRel
                        rw [he]
                        exact ⟨_, _, rfl, World.ownsRow_lit wr _ 1 (Nat.le_refl _) (by simp [maxLen]) rfl, (Below.refl _ _).alloc (Nat.le_refl _) _⟩
                      have Hfs := Lib.hid hfs
                      clear hfs ha0
                      go_wp2_with fail
                      go_meet
                      exact Hfs.out
                    · have ha1 : (0 : Int) < (a : Int) := by omega
                      have HE1 := Lib.hid (T.sF_enc1 ha0 hk9)
                      obtain ⟨nk, hnk⟩ : ∃ nk, nk = (T.nN k).enc.length := ⟨_, rfl⟩
                      have hnk3 : nk ≤ 3 := by rw [hnk]; exact T.nN_len k
                      have hnk0 : 0 < nk := by rw [hnk]; exact List.length_pos_iff.2 (T.enc_ne _)
                      rw [← hnk] at kO1
                      have Hnk := Lib.hid hnk
                      clear hnk ha0
                      go_wp2_with fail
                      refine (kO1.out _).mono ?_
                      rintro ee w1 ⟨ao, ck, rfl, hok, hbk⟩
                      have hbA : Below wr.heap.size wr ((wr.alloc (.cells #[.int .i64 0] 3)).alloc (.cells #[.int .i64 1, .int .i64 a] 3)) := ((Below.refl _ _).alloc (Nat.le_refl _) _).alloc (by simp) _
                      have hoA : ((wr.alloc (.cells #[.int .i64 0] 3)).alloc (.cells #[.int .i64 1, .int .i64 a] 3)).ownsRow wr.heap.size 3 1 (.slice (some ⟨wr.heap.size + 1, 0, none⟩) 2 2) 2 (ints [1, (a : Int)]) := by
                        have h9 := World.ownsRow_lit (base := wr.heap.size) (e := 3) (size := 1) (wr.alloc (.cells #[.int .i64 0] 3)) #[.int .i64 1, .int .i64 a] 2 (by simp) (by simp [maxLen]) rfl
                        rw [World.size_alloc] at h9
                        exact h9
                      have HbA := Lib.hid (hbA.trans (hbk.mono hbA.size))
                      have HoA := Lib.hid (ownsRow_below' hoA hbk)
                      rw [Hnk.out] at hok
                      obtain ⟨gk, rfl, _, hatk, hck, hcmk⟩ := own_row2 hok
                      rw [← Hnk.out] at hck
                      have Hn1 := Lib.hid (At.news hatk)
                      have Hlen := Lib.hid (show (ints (T.nN k).enc).length = nk * 1 by rw [ints_len, Hnk.out, Nat.mul_one])
                      have hsA := HbA.out.size
                      clear hbA hoA hok hatk hbk
                      go_wp2_with (first
                        | (at_builtin; refine wpList_append_own_at _ rfl (.tmp 40) (.tmp 42) 23 rfl wr.heap.size 3 i0 (.int .i64 0) 1 8 Try.underlying23 hi hz0 hz1 hz2 rfl (by decide) _ 2 (ints [1, (a : Int)]) rfl HoA.out ⟨gk, 0, none⟩ nk ck (ints (T.nN k).enc) rfl Hlen.out Hn1.out (ints_one _) (by unfold maxLen; omega) (by omega) hsA ?_; intro v10 w2 ho2 hg2 _ _))
                      obtain ⟨g10, c10, rfl⟩ := Joins.ownsRow_form ho2 (by omega)
                      have hfs : FsRel k a wr (.slice (some ⟨g10, 0, none⟩) (2 + nk) c10) w2 := by
                        have h8 : ints [1, (a : Int)] ++ ints (T.nN k).enc = ints (T.sF k a).enc := by
                          rw [← HE1.out, num_nN (by omega)]; simp [ints]
                        have h9 : 2 + nk = (T.sF k a).enc.length := by
                          rw [← HE1.out, num_nN (by omega), Hnk.out]; simp; omega
                        refine ⟨g10, c10, by rw [h9], ?_, HbA.out.grown hg2 hsA (fun r e => (HoA.out.lt r e).1)⟩
                        rw [← h9, ← h8]
                        exact ho2
                      have Hfs := Lib.hid hfs
                      clear hfs ho2 hg2
                      go_wp2_with fail
                      go_meet
                      exact Hfs.out
                  case rest =>
                    obtain ⟨gF, cF, rfl, hoF, hbF⟩ := hcut
                    go_step
                    obtain ⟨WW, rfl⟩ : ∃ wt : World, wt = wc := ⟨_, rfl⟩
                    have HoF := Lib.hid hoF
                    have HbF := Lib.hid hbF
                    have hlt := T.sI_lt hk ha hb
                    have hadd := T.sF_add hk ha hb
                    obtain ⟨i, hie⟩ : ∃ i, i = T.sI k a b := ⟨_, rfl⟩
                    rw [← hie] at hlt hadd
                    have Hie := Lib.hid hie
                    have Hadd := Lib.hid hadd
                    have hsW := hbF.size
                    have hF5 := T.sF_len k a
                    have HFnf := Lib.hid (T.sF_nf (k := k) (a := a) ha hk9)
                    obtain ⟨nF, hnF⟩ : ∃ nF, nF = (T.sF k a).enc.length := ⟨_, rfl⟩
                    rw [← hnF] at hF5 ⊢
                    have HnF := Lib.hid hnF
                    obtain ⟨nb, hnb⟩ : ∃ nb, nb = (T.nN b).enc.length := ⟨_, rfl⟩
                    have hnb3 : nb ≤ 3 := by rw [hnb]; exact T.nN_len b
                    rw [← hnb] at kO2
                    have Hnb := Lib.hid hnb
                    have HBnf := Lib.hid (T.nN_nf (show b ≤ 9999 by omega))
                    obtain ⟨no, hno⟩ : ∃ no, no = (T.sO i).enc.length := ⟨_, rfl⟩
                    have hno8 : no ≤ 8 := by rw [hno]; exact T.sO_len i
                    have Hno := Lib.hid hno
                    obtain ⟨bn, hbn⟩ : ∃ bn, bn = (bestRow best).length := ⟨_, rfl⟩
                    have hbn8 : bn ≤ 8 := by rw [hbn]; exact bestRow_len best
                    have Hbn := Lib.hid hbn
                    rw [← hbn] at Ho8 ⊢
                    clear hoF hbF hie hadd hnF hnb hno hbn
                    go_wp2_with fail
                    refine (kO2.out _).mono ?_
                    rintro ee w2 ⟨ao, cb, rfl, hob, hbb⟩
                    have Hb2 := Lib.hid (HbF.out.trans (hbb.mono hsW))
                    have hoF2 := ownsRow_below' HoF.out hbb
                    rw [Hnb.out] at hob
                    obtain ⟨gb, rfl, _, hatb, hcb, hcmb⟩ := own_row2 hob
                    rw [← Hnb.out] at hcb
                    obtain ⟨gF', heF, _, hatF, hcF, hcmF⟩ := own_row2 hoF2
                    simp only [Option.some.injEq, Addr.mk.injEq, and_true] at heF
                    subst heF
                    rw [← HnF.out] at hcF
                    have kA := Lib.hid (l2Add_any gF 0 nF cF gb 0 nb cb (T.sF k a) (T.nN b) w2 HFnf.out HBnf.out HnF.out Hnb.out (by omega) (by omega) hcF hcmF hcb hcmb hatF hatb)
                    unfold IntPost at kA
                    rw [Hadd.out, ← Hno.out] at kA
                    have hs2 : wr.heap.size ≤ w2.heap.size := Hb2.out.size
                    clear hbb hoF2 hob hatb hatF
                    go_wp2_with fail
                    refine (kA.out).mono ?_
                    rintro ee w3 ⟨ao, c3, rfl, ho3, hb3⟩
                    have Hb3 := Lib.hid (Hb2.out.trans (hb3.mono hs2))
                    have hs3 : wr.heap.size ≤ w3.heap.size := Hb3.out.size
                    rw [Hno.out] at ho3
                    obtain ⟨g3, rfl, hg3, _, hc3, hcm3⟩ := own_row2 ho3
                    rw [← Hno.out] at hc3
                    have kG := Lib.hid (spec_Grow (some ⟨g3, 0, none⟩) no c3 (T.sO i).enc n w3 (by rw [Hno.out]; exact Sl.of_own ho3) hn0 hn1)
                    obtain ⟨e, he⟩ : ∃ e, e = T.growE (T.sO i).enc n := ⟨_, rfl⟩
                    rw [← he] at kG
                    have He := Lib.hid he
                    have Ho3 := Lib.hid ho3
                    clear hb3 ho3 he
                    go_wp2_with fail
                    refine (kG.out).mono ?_
                    rintro ee w4 ⟨rfl, hb4⟩
                    have Hb4 := Lib.hid (Hb3.out.trans (hb4.mono hs3))
                    have hs4 : wr.heap.size ≤ w4.heap.size := Hb4.out.size
                    have Hbw := Lib.hid (Hb8.out.trans (Hb4.out.mono hs8))
                    have Ho4 := Lib.hid (Joins.ownsRow_le (base' := w.heap.size) (ownsRow_below' Ho3.out hb4) (by omega))
                    have Hob := Lib.hid (ownsRow_below' Ho8.out Hb4.out)
                    clear hb4
                    by_cases hh : goal ≤ e
                    · have HH := Lib.hid (show T.hit n goal i by unfold T.hit; rw [← He.out]; exact hh)
                      cases best with
                      | none =>
                        obtain rfl : bn = 0 := Hbn.out
                        have HN := Lib.hid (show T.Best n goal (some i) k a (b + 1) by rw [Hie.out]; exact HB.out.take hk ha hb (by rw [← Hie.out]; exact HH.out) (fun j hj => by cases hj))
                        go_wp2_with fail
                        go_roundw
                        case rel => exact ⟨b + 1, some i, by omega, by simp, HN.out, ⟨_, c3, by rw [Hno.out]; rfl, Ho4.out⟩, Hbw.out⟩
                        case measure => simp [intOf]; omega
                      | some j =>
                        have hj9 : j < 199 := (HB.out.2 j rfl).1
                        have hbn0 : ((bn : Int) == 0) = false := by
                          have := List.length_pos_iff.2 (T.enc_ne (T.sO j))
                          have h9 := Hbn.out
                          simp only [bestRow] at h9
                          simp
                          omega
                        have hob9 := Hob.out
                        rw [Hbn.out] at hob9
                        obtain ⟨gj, hje, _, hatj, hcj, hcmj⟩ := own_row2 (t := T.sO j) hob9
                        subst hje
                        obtain ⟨gi, hie2, _, hati, hci, hcmi⟩ := own_row2 (t := T.sO i) (Ho4.out)
                        simp only [Option.some.injEq, Addr.mk.injEq, and_true] at hie2
                        subst hie2
                        have kC := Lib.hid (l1Compare_any ((T.sO i).body.length + 1) g3 0 c3 gj 0 c8 no bn (T.sO i) (T.sO j) w4 (Nat.lt_succ_self _) Hno.out Hbn.out (by omega) (by omega) hc3 hcm3 (by rw [Hbn.out]; exact hcj) hcmj hati hatj)
                        clear hob9 hatj hati hcj hci
                        rcases Nat.lt_trichotomy i j with h | h | h
                        · skip
                          rw [T.sO_cmp h hj9] at kC
                          have HN := Lib.hid (show T.Best n goal (some i) k a (b + 1) by rw [Hie.out]; exact HB.out.take hk ha hb (by rw [← Hie.out]; exact HH.out) (fun j' hj' => by cases hj'; rw [← Hie.out]; omega))
                          clear h
                          go_wp2_with fail
                          refine (kC.out).mono ?_
                          rintro ee w5 ⟨rfl, hb5⟩
                          have Hb5 := Lib.hid hb5
                          have Hbx := Lib.hid (Hbw.out.trans (hb5.mono Hbw.out.size))
                          clear hb5
                          go_wp2_with fail
                          go_roundw
                          case rel => exact ⟨b + 1, some i, by omega, by simp, HN.out, ⟨_, c3, by rw [Hno.out]; rfl, ownsRow_below' Ho4.out Hb5.out⟩, Hbx.out⟩
                          case measure => simp [intOf]; omega
                        · skip
                          have hcmp : (T.sO i).cmp (T.sO j) = 0 := by rw [h]; exact T.cmp_refl _
                          rw [hcmp] at kC
                          have HN := Lib.hid (show T.Best n goal (some j) k a (b + 1) from HB.out.keep (by rw [← Hie.out]; omega))
                          clear hcmp
                          clear h
                          go_wp2_with fail
                          refine (kC.out).mono ?_
                          rintro ee w5 ⟨rfl, hb5⟩
                          have Hb5 := Lib.hid hb5
                          have Hbx := Lib.hid (Hbw.out.trans (hb5.mono Hbw.out.size))
                          clear hb5
                          go_wp2_with fail
                          go_roundw
                          case rel => exact ⟨b + 1, some j, by omega, by simp, HN.out, ⟨_, c8, by rw [Hbn.out], by rw [← Hbn.out]; exact ownsRow_below' Hob.out Hb5.out⟩, Hbx.out⟩
                          case measure => simp [intOf]; omega
                        · skip
                          have hcmp : (T.sO i).cmp (T.sO j) = 1 := by
                            have h1 := T.sO_cmp h hlt
                            have h2 := T.cmp_swap (T.sO i) (T.sO j)
                            omega
                          rw [hcmp] at kC
                          have HN := Lib.hid (show T.Best n goal (some j) k a (b + 1) from HB.out.keep (by rw [← Hie.out]; omega))
                          clear hcmp
                          clear h
                          go_wp2_with fail
                          refine (kC.out).mono ?_
                          rintro ee w5 ⟨rfl, hb5⟩
                          have Hb5 := Lib.hid hb5
                          have Hbx := Lib.hid (Hbw.out.trans (hb5.mono Hbw.out.size))
                          clear hb5
                          go_wp2_with fail
                          go_roundw
                          case rel => exact ⟨b + 1, some j, by omega, by simp, HN.out, ⟨_, c8, by rw [Hbn.out], by rw [← Hbn.out]; exact ownsRow_below' Hob.out Hb5.out⟩, Hbx.out⟩
                          case measure => simp [intOf]; omega
                    · have HN := Lib.hid (show T.Best n goal best k a (b + 1) from HB.out.miss (by rw [← Hie.out]; unfold T.hit; rw [← He.out]; exact hh))
                      go_wp2_with fail
                      go_roundw
                      case rel => exact ⟨b + 1, best, by omega, by simp, HN.out, ⟨_, c8, by rw [Hbn.out], by rw [← Hbn.out]; exact Hob.out⟩, Hbw.out⟩
                      case measure => simp [intOf]; omega
                · have hb2 : ¬ (b : Int) ≤ 9 := by omega
                  obtain rfl : b = 10 := by omega
                  have HN := Lib.hid HB.out.nextA
                  go_wp2_with fail
                  go_roundw
                  case rel => exact ⟨a + 1, best, by omega, by simp, HN.out, ⟨_, _, rfl, Ho8.out⟩, Hb8.out⟩
                  case measure => simp [intOf]; omega
            · have ha2 : ¬ (a : Int) ≤ 9 := by omega
              obtain rfl : a = 10 := by omega
              have HN := Lib.hid HB.out.nextK
              obtain ⟨⟨a7, c7, rfl, ho7⟩, hb7⟩ := hL
              have Ho7 := Lib.hid ho7
              have Hb7 := Lib.hid hb7
              clear ho7 hb7
              go_wp2_with fail
              go_roundw
              case rel => exact ⟨k + 1, best, by omega, by simp, HN.out, ⟨_, _, rfl, Ho7.out⟩, Hb7.out⟩
              case measure => simp [intOf]; omega
        · have hk2 : ¬ (k : Int) ≤ 2 := by omega
          obtain rfl : k = 3 := by omega
          obtain ⟨q1, q2⟩ := Hfin.out best HB.out
          obtain ⟨⟨a7, c7, rfl, ho7⟩, hb7⟩ := hL
          have Q1 := Lib.hid q1
          have Q2 := Lib.hid q2
          have Ho7 := Lib.hid ho7
          have Hb7 := Lib.hid hb7
          clear ho7 hb7 q1 q2
          cases best with
          | none =>
            go_wp2_with fail
            go_ret2
            exact ⟨a7, c7, by rw [Q1.out, Q2.out]; rfl, by rw [Q1.out]; exact Ho7.out, Hb7.out⟩
          | some i =>
            have hlp : (0 : Int) < ((bestRow (some i)).length : Nat) := by
              have := List.length_pos_iff.2 (T.enc_ne (T.sO i))
              simp only [bestRow]
              omega
            obtain ⟨bl, hbl⟩ : ∃ bl, bl = (bestRow (some i)).length := ⟨_, rfl⟩
            have Hbl := Lib.hid hbl
            rw [← hbl] at hlp ⊢
            clear hbl
            go_wp2_with fail
            go_ret2
            exact ⟨a7, c7, by rw [Q1.out, Q2.out, Hbl.out]; rfl, by rw [Q1.out]; exact Ho7.out, Hb7.out⟩
    · have k1 := Lib.hid (fun w => l1In_yes n 1 90 w h1.1 h1.2)
      have k2 := Lib.hid (fun w => l1In_no goal 1 90 w (by omega))
      rw [T.leastRow, T.leastOk, if_neg (fun h => h2 h.2), if_neg (fun h => h2 h.2)]
      clear h1 h2 hn0 hn1 _hg0 _hg1
      go_enter Try.func29, Try.ntmps29
      go_wp2_with fail
      refine (k1.out _).mono ?_
      rintro ee wx ⟨rfl, rfl⟩
      go_wp2_with fail
      refine (k2.out _).mono ?_
      rintro ee wx ⟨rfl, rfl⟩
      go_wp2_with fail
      go_ret2
      exact ⟨_, _, rfl, Hlit.out, Hlb.out⟩
  · have k1 := Lib.hid (fun w => l1In_no n 1 90 w (by omega))
    rw [T.leastRow, T.leastOk, if_neg (fun h => h1 h.1), if_neg (fun h => h1 h.1)]
    clear h1 hn0 hn1 _hg0 _hg1
    go_enter Try.func29, Try.ntmps29
    go_wp2_with fail
    refine (k1.out _).mono ?_
    rintro ee wx ⟨rfl, rfl⟩
    go_wp2_with fail
    go_ret2
    exact ⟨_, _, rfl, Hlit.out, Hlb.out⟩
end Go.Proofs.Ythalogciiochfaa

/- LeastI -/
/- The simple ordinals of the program. -/
namespace Go.Proofs.Ythalogciiochfaa
set_option maxRecDepth 100000
open Go.RowKit

theorem tz_lit (W : World) (n : Int) (e : T) (b off c : Nat) (h : At W b off e.enc) (hc : e.enc.length ≤ c) (hm : c ≤ maxLen) :
    Tz (W.alloc (.cells #[.int .i64 n, .slice (some ⟨b, off, none⟩) e.enc.length c] 63)) W.heap.size 1 1 (.c n e .z) [.int .i64 n, .slice (some ⟨b, off, none⟩) e.enc.length c] := by
  refine ⟨rfl, Nat.le_refl _, by simp [maxLen], ⟨b, off, c, [], rfl, h.alloc (T.enc_ne e) _, hc, hm, rfl⟩, by simp, fun j hj => ?_⟩
  rw [Joins.cell_alloc_mark_at _ _ _ _ _ _ rfl]
  match j, hj with
  | 0, _ => rfl
  | 1, _ => rfl

set_option maxRecDepth 100000 in
set_option maxHeartbeats 8000000 in
theorem simpleOrd_any (p m q : Nat) (hp : p ≤ 2) (hm1 : 1 ≤ m) (hm9 : m ≤ 9) (hq : q ≤ 9) (w : World) :
    Calls Try.prog 88 #[.int .i64 p, .int .i64 m, .int .i64 q] w fun e w' => ∃ g c, e = .returned (.slice (some ⟨g, 0, none⟩) (T.sO (T.sI p m q)).enc.length c) ∧
      w'.ownsRow w.heap.size 3 1 (.slice (some ⟨g, 0, none⟩) (T.sO (T.sI p m q)).enc.length c) (T.sO (T.sI p m q)).enc.length (ints (T.sO (T.sI p m q)).enc) ∧ Below w.heap.size w w' := by
  have hadd := T.sF_add hp hm9 hq
  rw [T.sF, if_neg (by omega)] at hadd
  obtain ⟨S, hS⟩ : ∃ S, S = T.sO (T.sI p m q) := ⟨_, rfl⟩
  have hSl : S.enc.length ≤ 8 := by rw [hS]; exact T.sO_len _
  rw [← hS] at hadd ⊢
  have Hadd := Lib.hid hadd
  have HSl := Lib.hid (show S.enc.length ≤ 1000000000000 by omega)
  have HSp := Lib.hid (List.length_pos_iff.2 (T.enc_ne S))
  obtain ⟨sn, hsn⟩ : ∃ sn, sn = S.enc.length := ⟨_, rfl⟩
  have Hsn := Lib.hid hsn
  rw [← hsn]
  have kP := Lib.hid (fun wx => impl_OrdOf (p : Int) wx (by omega) (by omega))
  have kQ := Lib.hid (fun wx => impl_OrdOf (q : Int) wx (by omega) (by omega))
  rw [num_nN (by omega)] at kP kQ
  have hpl := T.nN_len p
  have hql := T.nN_len q
  obtain ⟨E, hE⟩ : ∃ E, E = T.nN p := ⟨_, rfl⟩
  obtain ⟨Q, hQ⟩ : ∃ Q, Q = T.nN q := ⟨_, rfl⟩
  have HQf := Lib.hid (show Q.Nf by rw [hQ]; exact T.nN_nf (by omega))
  rw [← hE] at kP hpl Hadd
  rw [← hQ] at kQ hql Hadd
  clear hadd hS hSl hsn hE hQ
  go_enter Try.func88, Try.ntmps88
  go_wp2_with fail
  refine (kP.out _).mono ?_
  rintro ee w1 ⟨ao, ce, rfl, hoe, hbe⟩
  obtain ⟨ge, rfl, _, hate, hce, hcme⟩ := own_row2 hoe
  have Hate := Lib.hid hate
  have Hbe := Lib.hid hbe
  have hs1 := hbe.size
  clear hoe hate hbe
  go_upto_region 2 with fail
  obtain ⟨wb, hwb⟩ : ∃ wb, wb = w1.alloc (.cells #[.int .i64 m, .slice (some ⟨ge, 0, none⟩) E.enc.length ce] 63) := ⟨_, rfl⟩
  have hBs : w1.heap.size < wb.heap.size := by rw [hwb, World.size_alloc]; omega
  have z0 : wb.cell? ⟨w1.heap.size, 0, none⟩ = some (.int .i64 m) := by rw [hwb, Joins.cell_alloc_mark_at _ _ _ _ _ _ rfl]; rfl
  have z1 : wb.cell? ⟨w1.heap.size, 1, none⟩ = some (.slice (some ⟨ge, 0, none⟩) E.enc.length ce) := by rw [hwb, Joins.cell_alloc_mark_at _ _ _ _ _ _ rfl]; rfl
  have Hb1 := Lib.hid (show Below w.heap.size w wb by rw [hwb]; exact Hbe.out.alloc hs1 _)
  have Hatb := Lib.hid (show At wb ge 0 E.enc by rw [hwb]; exact Hate.out.alloc (T.enc_ne E) _)
  have hsb := Hb1.out.size
  have hgl : ge < wb.heap.size := Hatb.out.lt (T.enc_ne E)
  rw [← hwb]
  clear hwb
  have Hate2 := Lib.hid (show At wb.drew ge 0 E.enc from Hatb.out)
  have Hbd := Lib.hid Hb1.out.drew
  have hsd : wb.drew.heap.size = wb.heap.size := rfl
  have Htm1 := Lib.hid (show ∀ x ∈ (T.c (m : Int) E .z).times, -1000000 ≤ x ∧ x ≤ 1000000 from fun x hx => by
    simp only [T.times, List.mem_singleton] at hx
    omega)
  have Htm2 := Lib.hid (show ∀ x ∈ Q.times, -1000000 ≤ x ∧ x ≤ 1000000 from fun x hx => by have := T.nf_times HQf.out x hx; omega)
  have HEl := Lib.hid (show (T.c (m : Int) E .z).enc.length ≤ 1000 by rw [T.enc_len, T.body_c]; simp only [List.length_cons, List.length_append, T.body, List.length_nil]; omega)
  go_region_held3 (fun w' => w'.cell? ⟨w1.heap.size, 0, none⟩ = some (.int .i64 m) ∧ w'.cell? ⟨w1.heap.size, 1, none⟩ = some (.slice (some ⟨ge, 0, none⟩) E.enc.length ce)) (first | go_keep | exact ⟨kS0, kS1⟩ | exact ⟨kT0, kT1⟩ | exact ⟨kU0, kU1⟩ | exact ⟨kV0, kV1⟩)
    (first
      | (go_at_call 23; (with_reducible refine (kQ.out _).mono ?_); rintro ee w2 ⟨ao, cq, rfl, hoq, hbq⟩; obtain ⟨gq, rfl, _, hatq, hcq, hcmq⟩ := own_row2 hoq
         have kS0 := (hbq.cell (p := ⟨w1.heap.size, 0, none⟩) (by simp <;> omega)).trans (by first | exact z0 | exact (World.cell?_alloc_past _ _ _ hBs).trans z0)
         have kS1 := (hbq.cell (p := ⟨w1.heap.size, 1, none⟩) (by simp <;> omega)).trans (by first | exact z1 | exact (World.cell?_alloc_past _ _ _ hBs).trans z1)
         have HB2 := Lib.hid (show Below w.heap.size w w2 by first | exact Hbd.out.trans (hbq.mono hsb) | exact (Hbd.out.alloc hsb _).trans (hbq.mono (by simp; omega)))
         have hs2 : wb.heap.size ≤ w2.heap.size := by first | exact hbq.size | (have h9 := hbq.size; simp at h9; omega))
      | (go_at_call 54; (with_reducible refine (termsOf_any gq 0 Q.enc.length cq Q.enc Q _ rfl (by omega) hcq hcmq (by first | exact hatq | exact hatq.alloc (T.enc_ne Q) _) rfl).mono ?_); rintro ee w3 ⟨ds, rfl, hot, htt, hbt⟩
         have kT0 := (hbt.cell (p := ⟨w1.heap.size, 0, none⟩) (by simp <;> omega)).trans (by first | exact kS0 | exact (World.cell?_alloc_past _ _ _ (by omega)).trans kS0)
         have kT1 := (hbt.cell (p := ⟨w1.heap.size, 1, none⟩) (by simp <;> omega)).trans (by first | exact kS1 | exact (World.cell?_alloc_past _ _ _ (by omega)).trans kS1)
         have HB3 := Lib.hid (show Below w.heap.size w w3 by first | exact HB2.out.trans (hbt.mono (by omega)) | exact (HB2.out.alloc (by omega) _).trans (hbt.mono (by simp; omega)))
         have hs3 : w2.heap.size ≤ w3.heap.size := by first | exact hbt.size | (have h9 := hbt.size; simp at h9; omega))
      | (go_at_call 53; go_loud (refine (addedTerms_any _ 1 1 _ _ _ (.c (m : Int) E .z) Q _ ds _ (by first | exact ((tz_lit _ _ _ _ _ _ Hate2.out hce hcme).below hbq).below hbt | exact (tz_lit _ _ _ _ _ _ (Hate2.out.below hbq (by omega)) hce hcme).below hbt | exact tz_lit _ _ _ _ _ _ ((Hate2.out.below hbq (by omega)).below hbt (by omega)) hce hcme)
          (by have h9 := Tz.of_own hot htt rfl; first | exact h9 | (rw [World.size_alloc] at h9; exact h9) | exact h9.below ((Below.refl _ _).alloc (Nat.le_refl _) _)) HEl.out (by omega) Htm1.out Htm2.out).mono ?_); rintro ee w4 ⟨a5, n5, c5, rfl, htm, hb4⟩
         rw [Hadd.out] at htm
         have kU0 := (hb4.cell (p := ⟨w1.heap.size, 0, none⟩) (by simp <;> omega)).trans (by first | exact kT0 | exact (World.cell?_alloc_past _ _ _ (by omega)).trans kT0)
         have kU1 := (hb4.cell (p := ⟨w1.heap.size, 1, none⟩) (by simp <;> omega)).trans (by first | exact kT1 | exact (World.cell?_alloc_past _ _ _ (by omega)).trans kT1)
         have HB4 := Lib.hid (show Below w.heap.size w w4 by first | exact HB3.out.trans (hb4.mono (by omega)) | exact (HB3.out.alloc (by omega) _).trans (hb4.mono (by simp; omega)))
         have hs4 : w3.heap.size ≤ w4.heap.size := by first | exact hb4.size | (have h9 := hb4.size; simp at h9; omega))
      | (go_at_call 69; (with_reducible refine (ordOfTerms_any a5 n5 c5 S _ HSl.out htm).mono ?_); rintro ee w5 ⟨aR, cR, rfl, hoR, hb5⟩
         have kV0 := (hb5.cell (p := ⟨w1.heap.size, 0, none⟩) (show w1.heap.size < w4.heap.size by omega)).trans kU0
         have kV1 := (hb5.cell (p := ⟨w1.heap.size, 1, none⟩) (show w1.heap.size < w4.heap.size by omega)).trans kU1))
  all_goals
    obtain ⟨gR, cR', hf⟩ := Joins.ownsRow_form hoR HSp.out
    simp only [Value.slice.injEq] at hf
    obtain ⟨rfl, _, rfl⟩ := hf
    have HR := Lib.hid (Joins.ownsRow_le (base' := w.heap.size) hoR HB4.out.size)
    have HBR := Lib.hid (HB4.out.trans (hb5.mono HB4.out.size))
    rw [← Hsn.out] at HR
    have hfin : ∃ g c, Ending.returned (.slice (some ⟨gR, 0, none⟩) S.enc.length cR) = .returned (.slice (some ⟨g, 0, none⟩) sn c) ∧ w5.ownsRow w.heap.size 3 1 (.slice (some ⟨g, 0, none⟩) sn c) sn (ints S.enc) ∧ Below w.heap.size w w5 := ⟨gR, cR, by rw [Hsn.out], HR.out, HBR.out⟩
    have Hfin := Lib.hid hfin
    clear hfin hoR hb5
    go_wp2_with fail
    go_ret
    exact Hfin.out
end Go.Proofs.Ythalogciiochfaa

/- LeastJ -/
/- GrowLeast of the program: the simple ordinals, one after the other. -/
namespace Go.Proofs.Ythalogciiochfaa
set_option maxRecDepth 100000
open Go.RowKit Go.Shelf

attribute [local go_sem] Oper.semAt_some

/-- At the widest fence a call of yield wants no room. -/
theorem YieldAt.wideL {n m l : Nat} {P : Program} {args : Array Value} {W : World} {R : Ending → World → Prop} (h : YieldAt Fence.wide n P l args W R) : YieldAt Fence.wide m P l args W R := by
  obtain ⟨fn, tmps, assign, body, hy, h1, h2⟩ := h
  exact ⟨fn, tmps, assign, body, hy, h1, fun c cs _ => h2 c cs (room_wide _)⟩
theorem grown_of_belowL {w w' : World} (h : Below w.heap.size w w') : w.grownBy w' none := ⟨h.os, h.tape, h.output, h.size, fun k hk _ => h.block k hk⟩

/-- What the iterator hands over: the row of the next ordinal. -/
abbrev HandL := Nat × Nat × Nat
def encsL (x : HandL) : Array Value := #[.slice (some ⟨x.1, 0, none⟩) x.2.1 x.2.2]
def GL (rb i : Nat) (x : HandL) (W : World) : Prop :=
  i < 199 ∧ x.2.1 = (T.sO i).enc.length ∧ W.ownsRow rb 3 1 (.slice (some ⟨x.1, 0, none⟩) x.2.1 x.2.2) x.2.1 (ints (T.sO i).enc)

set_option maxRecDepth 100000 in
set_option maxHeartbeats 4000000 in
theorem simpleOrds1_seq (n lo hi rb : Nat) (w0 : World) (hrb : rb ≤ w0.heap.size + 2) :
    SeqX Fence.wide n Try.prog 87 #[] encsL 0 lo hi (GL rb) (fun m => m = 199) (fun m => 1 ≤ m ∧ m ≤ 199) w0 := by
  intro l J Jx W hW hW2s hJ hJx hY h0
  have hBs : w0.heap.size ≤ W.heap.size := hW.size
  have HJ := Lib.hid hJ
  have HY := Lib.hid hY
  have H0 := Lib.hid h0
  clear hJ hJx hY h0 hW
  refine callsIn_of_wp Try.func87 rfl trivial ?_ rfl
  simp only [Try.ntmps87, List.size_toArray, List.length_cons, List.length_nil, Nat.reduceAdd, Nat.reduceSub, Array.replicate_succ, Array.replicate_zero, List.push_toArray, List.append_toArray, List.nil_append, List.cons_append]
  gi_wp2
  gi_loopw [6] (fun v6 wr => ∃ j : Nat, j ≤ 19 ∧ v6 = .int .i64 j ∧ J j wr ∧ W.heap.size ≤ wr.heap.size) (fun v6 _ => 19 - (intOf v6).toNat)
  case atStart => exact ⟨0, Nat.zero_le _, rfl, H0.out, Nat.le_refl _⟩
  case round =>
    obtain ⟨j, hj, rfl, hJs, hsz⟩ := hrel
    have HJs := Lib.hid hJs
    clear hJs
    by_cases hlt : j < 19
    · have kO := Lib.hid (impl_OrdOf (j : Int) wr (by omega) (by omega))
      rw [num_nN (by omega), show T.nN j = T.sO j by rw [T.sO, if_pos hlt]] at kO
      obtain ⟨nj, hnj⟩ : ∃ nj, nj = (T.sO j).enc.length := ⟨_, rfl⟩
      have hnp : 0 < nj := by rw [hnj]; exact List.length_pos_iff.2 (T.enc_ne _)
      rw [← hnj] at kO
      have Hnj := Lib.hid hnj
      clear hnj
      gi_wp2
      refine ⟨trivial, fun h => (by cases h), (callsIn_wide.2 kO.out).mono ?_⟩
      rintro ee w1 ⟨ao, c1, rfl, ho1, hb1⟩
      obtain ⟨g1, cf, hf⟩ := Joins.ownsRow_form ho1 hnp
      simp only [Value.slice.injEq] at hf
      obtain ⟨rfl, _, rfl⟩ := hf
      have hG1 : GL rb j (g1, nj, c1) w1 := ⟨by omega, Hnj.out, Joins.ownsRow_le (base' := rb) ho1 (by omega)⟩
      have hJ1 : J j w1 := HJ.out j wr w1 none HJs.out (grown_of_belowL hb1) (fun r e => by cases e)
      have hs1 := hb1.size
      obtain ⟨fn, tmps, assign, body, hy, hR⟩ := YieldAt.wideL (m := n - 1) (HY.out j (g1, nj, c1) w1 hJ1 hG1)
      dsimp only [encsL] at hy
      clear hb1 ho1 hJ1 hG1
      gi_wp2
      refine ⟨fun h => (by cases h), hR.mono ?_⟩
      rintro e W3 (⟨rfl, hJ3, hk3⟩ | ⟨rfl, hJx3, _, _⟩)
      · have hs3 := hk3.size
        have HJ3 := Lib.hid hJ3
        clear hJ3 hk3
        gi_wp2
        go_roundw
        case rel => exact ⟨j + 1, by omega, by simp, HJ3.out, by omega⟩
        case measure => simp [intOf]; omega
      · have HJx3 := Lib.hid hJx3
        clear hJx3
        gi_wp2
        refine bodyPost_ret (results_none rfl _ _ _) rfl ?_
        exact ⟨⟨_, rfl⟩, .inr ⟨_, ⟨by omega, by omega⟩, HJx3.out⟩⟩
    · obtain rfl : j = 19 := by omega
      have hlt2 : ¬ ((19 : Nat) : Int) < 19 := by omega
      gi_wp2
      gi_loopw [3] (fun v3 wr => ∃ p : Nat, 1 ≤ p ∧ p ≤ 3 ∧ v3 = .int .i64 p ∧ J (19 + (p - 1) * 90) wr ∧ W.heap.size ≤ wr.heap.size) (fun v3 _ => 3 - (intOf v3).toNat)
      case atStart => exact ⟨1, by omega, by omega, rfl, HJs.out, hsz⟩
      case round =>
        clear HJs hsz
        obtain ⟨p, hp1, hp3, rfl, hJs, hsz⟩ := hrel
        have HJs := Lib.hid hJs
        clear hJs
        by_cases hp : p ≤ 2
        · have hp2 : (p : Int) ≤ 2 := by omega
          gi_wp2
          gi_loopw [4] (fun v4 wr => ∃ t : Nat, 1 ≤ t ∧ t ≤ 10 ∧ v4 = .int .i64 t ∧ J (19 + (p - 1) * 90 + (t - 1) * 10) wr ∧ W.heap.size ≤ wr.heap.size) (fun v4 _ => 10 - (intOf v4).toNat)
          case atStart => exact ⟨1, by omega, by omega, rfl, HJs.out, hsz⟩
          case round =>
            clear HJs hsz
            obtain ⟨t, ht1, ht10, rfl, hJs, hsz⟩ := hrel
            have HJs := Lib.hid hJs
            clear hJs
            by_cases ht : t ≤ 9
            · have ht2 : (t : Int) ≤ 9 := by omega
              gi_wp2
              gi_loopw [23] (fun v23 wr => ∃ b : Nat, b ≤ 10 ∧ v23 = .int .i64 b ∧ J (19 + (p - 1) * 90 + (t - 1) * 10 + b) wr ∧ W.heap.size ≤ wr.heap.size) (fun v23 _ => 10 - (intOf v23).toNat)
              case atStart => exact ⟨0, by omega, rfl, HJs.out, hsz⟩
              case round =>
                clear HJs hsz
                obtain ⟨b, hb10, rfl, hJs, hsz⟩ := hrel
                have HJs := Lib.hid hJs
                clear hJs
                by_cases hb : b < 10
                · have hb2 : (b : Int) < 10 := by omega
                  have kS := Lib.hid (simpleOrd_any p t b hp ht1 ht (by omega) wr)
                  have hsi : T.sI p t b = 19 + (p - 1) * 90 + (t - 1) * 10 + b := by rw [T.sI, if_neg (by omega), if_neg (by omega)]
                  obtain ⟨i, hi⟩ : ∃ i, i = 19 + (p - 1) * 90 + (t - 1) * 10 + b := ⟨_, rfl⟩
                  have hi9 : i < 199 := by omega
                  rw [hsi, ← hi] at kS
                  rw [← hi] at HJs
                  obtain ⟨nj, hnj⟩ : ∃ nj, nj = (T.sO i).enc.length := ⟨_, rfl⟩
                  rw [← hnj] at kS
                  have Hnj := Lib.hid hnj
                  have Hi := Lib.hid hi
                  clear hnj hi hsi
                  gi_wp2
                  refine ⟨trivial, fun h => (by cases h), (callsIn_wide.2 kS.out).mono ?_⟩
                  rintro ee w1 ⟨g1, c1, rfl, ho1, hb1⟩
                  have hG1 : GL rb i (g1, nj, c1) w1 := ⟨by omega, Hnj.out, Joins.ownsRow_le (base' := rb) ho1 (by omega)⟩
                  have hJ1 : J i w1 := HJ.out i wr w1 none HJs.out (grown_of_belowL hb1) (fun r e => by cases e)
                  have hs1 := hb1.size
                  obtain ⟨fn, tmps, assign, body, hy, hR⟩ := YieldAt.wideL (m := n - 1) (HY.out i (g1, nj, c1) w1 hJ1 hG1)
                  dsimp only [encsL] at hy
                  clear hb1 ho1 hJ1 hG1
                  gi_wp2
                  refine ⟨fun h => (by cases h), hR.mono ?_⟩
                  rintro e W3 (⟨rfl, hJ3, hk3⟩ | ⟨rfl, hJx3, _, _⟩)
                  · have hs3 := hk3.size
                    have HJ3 := Lib.hid hJ3
                    clear hJ3 hk3
                    gi_wp2
                    go_roundw
                    case rel => exact ⟨b + 1, by omega, by simp, by rw [show 19 + (p - 1) * 90 + (t - 1) * 10 + (b + 1) = i + 1 by have := Hi.out; omega]; exact HJ3.out, by omega⟩
                    case measure => simp [intOf]; omega
                  · have HJx3 := Lib.hid hJx3
                    clear hJx3
                    gi_wp2
                    refine bodyPost_ret (results_none rfl _ _ _) rfl ?_
                    exact ⟨⟨_, rfl⟩, .inr ⟨_, ⟨by omega, by omega⟩, HJx3.out⟩⟩
                · obtain rfl : b = 10 := by omega
                  have hb2 : ¬ ((10 : Nat) : Int) < 10 := by omega
                  gi_wp2
                  go_roundw
                  case rel => exact ⟨t + 1, by omega, by omega, by simp, by rw [show 19 + (p - 1) * 90 + (t + 1 - 1) * 10 = 19 + (p - 1) * 90 + (t - 1) * 10 + 10 by omega]; exact HJs.out, hsz⟩
                  case measure => simp [intOf]; omega
            · obtain rfl : t = 10 := by omega
              have ht2 : ¬ ((10 : Nat) : Int) ≤ 9 := by omega
              gi_wp2
              go_roundw
              case rel => exact ⟨p + 1, by omega, by omega, by simp, by rw [show 19 + (p + 1 - 1) * 90 = 19 + (p - 1) * 90 + (10 - 1) * 10 by omega]; exact HJs.out, hsz⟩
              case measure => simp [intOf]; omega
        · obtain rfl : p = 3 := by omega
          have hp2 : ¬ ((3 : Nat) : Int) ≤ 2 := by omega
          gi_wp2
          go_end0
          exact ⟨⟨_, rfl⟩, .inl HJs.out⟩

theorem simpleOrds_any (w : World) :
    Calls Try.prog 59 #[] w fun e w' => e = .returned (.func (.func 87) #[] #[]) ∧ w = w' := by
  go_enter Try.func59, Try.ntmps59
  go_wp2
  go_ret
  exact ⟨rfl, rfl⟩
end Go.Proofs.Ythalogciiochfaa

/- LeastK -/
/- GrowLeast of the program. -/
namespace Go.Proofs.Ythalogciiochfaa
set_option maxRecDepth 100000
open Go.RowKit Go.Shelf

attribute [local go_sem] Oper.semAt_some

/-- The two results lie in cells. -/
theorem least_out {W : World} {n : Nat} {tmps : Array Value} {c4 c5 : Nat} {x : Value} {y : Bool} (ht4 : tmps[4]?.getD undef = .pointer (some ⟨c4, 0, none⟩)) (ht5 : tmps[5]?.getD undef = .pointer (some ⟨c5, 0, none⟩))
    (h4 : W.cell? ⟨c4, 0, none⟩ = some x) (h5 : W.cell? ⟨c5, 0, none⟩ = some (.bool y)) {R : Ending → World → Prop} (hR : R (.returned (.tuple #[x, .bool y])) W) :
    LeavesInM Fence.wide n Try.prog Try.f28 tmps R [] .returning W := by
  refine ⟨_, ?_, hR⟩
  simp [results, Try.f28, go_sem, ht4, ht5, h4, h5]

/-- Between two rounds: none so far reaches the goal. -/
structure LkI (w : World) (n goal : Int) (i : Nat) (W : World) : Prop where
  b2 : Boxed W w.heap.size 3 (.int .i64 n)
  b3 : Boxed W (w.heap.size + 1) 3 (.int .i64 goal)
  b4 : Boxed W (w.heap.size + 1 + 1) 23 (.slice none 0 0)
  b5 : Boxed W (w.heap.size + 1 + 1 + 1) 4 (.bool false)
  below : Below w.heap.size w W
  none : Hid (∀ j, j < i → ¬ T.hit n goal j)
def LkX (w : World) (n goal : Int) (rb : Nat) (c : Code) (i : Nat) (W : World) : Prop :=
  c = .ret ∧ ∃ m g len cap, i = m + 1 ∧ m < 199 ∧ Hid (T.hit n goal m) ∧ Hid (∀ j, j < m → ¬ T.hit n goal j) ∧ len = (T.sO m).enc.length ∧ Boxed W (w.heap.size + 1 + 1) 23 (.slice (some ⟨g, 0, Option.none⟩) len cap) ∧
    W.ownsRow rb 3 1 (.slice (some ⟨g, 0, Option.none⟩) len cap) len (ints (T.sO m).enc) ∧ Boxed W (w.heap.size + 1 + 1 + 1) 4 (.bool true) ∧ Below w.heap.size w W

theorem box_atL {W : World} {s : Nat} (t : TypeId) (v : Value) (hs : W.heap.size = s) : Boxed (W.alloc (.cells #[v] t)) s t v := by
  subst hs; exact Boxed.new W t v
theorem Boxed.belowL {W W' : World} {B n₀ : Nat} {t : TypeId} {v : Value} (h : Boxed W B t v) (hb : Below n₀ W W') (hB : B < n₀) : Boxed W' B t v := (hb.block B hB).trans h

theorem two_setL {W : World} {s : Nat} {x y : Value} (h4 : W.cell? ⟨s, 0, Option.none⟩ = some x) (h5 : W.cell? ⟨s + 1, 0, Option.none⟩ = some y) (u v : Value) :
    ((W.setCell ⟨s, 0, Option.none⟩ u).setCell ⟨s + 1, 0, Option.none⟩ v).cell? ⟨s, 0, Option.none⟩ = some u ∧ ((W.setCell ⟨s, 0, Option.none⟩ u).setCell ⟨s + 1, 0, Option.none⟩ v).cell? ⟨s + 1, 0, Option.none⟩ = some v := by
  have k4 : (W.setCell ⟨s, 0, Option.none⟩ u).cell? ⟨s, 0, Option.none⟩ = some u := World.cell?_setCell_same _ _ _ h4
  have k5 : (W.setCell ⟨s, 0, Option.none⟩ u).cell? ⟨s + 1, 0, Option.none⟩ = some y :=
    (World.cell?_of_block ((grownBy_setCell' _ _ _).block _ (World.block_lt_of_cell? _ _ h5) (fun e => by have h : s + 1 = s := Option.some.inj e; omega))).trans h5
  exact ⟨(World.cell?_of_block ((grownBy_setCell' _ _ _).block _ (World.block_lt_of_cell? _ _ k4) (fun e => by have h : s = s + 1 := Option.some.inj e; omega))).trans k4, World.cell?_setCell_same _ _ _ k5⟩

set_option maxRecDepth 100000 in
set_option maxHeartbeats 8000000 in
theorem impl_GrowLeast (n goal : Int) (w : World) (hn0 : -9223372036854775808 ≤ n) (hn1 : n ≤ 9223372036854775807) (_hg0 : -9223372036854775808 ≤ goal) (_hg1 : goal ≤ 9223372036854775807) :
    Calls Try.prog 28 #[.int .i64 n, .int .i64 goal] w (OrdOkPost w (T.leastRow n goal) (T.leastOk n goal)) := by
  obtain ⟨w2, hww⟩ : ∃ w2, w2 = (((w.alloc (.cells #[.int .i64 n] 3)).alloc (.cells #[.int .i64 goal] 3)).alloc (.cells #[.slice none 0 0] 23)).alloc (.cells #[.bool false] 4) := ⟨_, rfl⟩
  have hw2 : Below w.heap.size w w2 := by rw [hww]; exact ((((Below.refl _ _).alloc (Nat.le_refl _) _).alloc (by simp) _).alloc (by simp; omega) _).alloc (by simp; omega) _
  have hs2 : w2.heap.size = w.heap.size + 4 := by rw [hww]; simp
  have e2 : Boxed w2 w.heap.size 3 (.int .i64 n) := by rw [hww]; exact (((box_atL _ _ rfl).alloc _).alloc _).alloc _
  have e3 : Boxed w2 (w.heap.size + 1) 3 (.int .i64 goal) := by rw [hww]; exact ((box_atL _ _ (by simp)).alloc _).alloc _
  have e4 : Boxed w2 (w.heap.size + 1 + 1) 23 (.slice none 0 0) := by rw [hww]; exact (box_atL _ _ (by simp)).alloc _
  have e5 : Boxed w2 (w.heap.size + 1 + 1 + 1) 4 (.bool false) := by rw [hww]; exact box_atL _ _ (by simp)
  have HWW := Lib.hid hww.symm
  have ks := Lib.hid (isGrowing_any n)
  have kt := Lib.hid (isGrowing_any goal)
  clear hww
  refine (callsIn_wide (n := 20)).1 ?_
  have z2 := e2.cell
  have z3 := e3.cell
  have z4 := e4.cell
  have z5 := e5.cell
  have f4 := e4.frozen
  have f5 := e5.frozen
  by_cases h1 : 1 ≤ n ∧ n ≤ 90
  · rw [decide_eq_true h1] at ks
    by_cases h2 : 1 ≤ goal ∧ goal ≤ 90
    · rw [decide_eq_true h2] at kt
      have HL := Lib.hid (show ∀ p, T.leastI n goal = p → T.leastRow n goal = bestRow p ∧ T.leastOk n goal = p.isSome from fun p hp => by
        rw [T.leastRow, T.leastOk, if_pos ⟨h1, h2⟩, if_pos ⟨h1, h2⟩, hp]
        cases p <;> exact ⟨rfl, rfl⟩)
      obtain ⟨R, hR⟩ : ∃ R, R = T.leastRow n goal := ⟨_, rfl⟩
      obtain ⟨O, hO⟩ : ∃ O, O = T.leastOk n goal := ⟨_, rfl⟩
      rw [← hR, ← hO] at HL ⊢
      have hI0 : LkI w n goal 0 w2 := ⟨e2, e3, e4, e5, hw2, Lib.hid (fun j hj => by omega)⟩
      clear hR hO h1 e2 e3 e4 e5 hw2
      refine callsIn_of_wp_marks Try.func28 rfl trivial ?_ rfl
      simp only [Try.ntmps28, List.size_toArray, List.length_cons, List.length_nil, Nat.reduceAdd, Nat.reduceSub, Array.replicate_succ, Array.replicate_zero, List.push_toArray, List.append_toArray, List.nil_append, List.cons_append]
      gi_wp2
      rw [HWW.out]
      gi_wp2
      refine ⟨trivial, (callsIn_wide.2 (ks.out _)).mono ?_⟩
      rintro ee wx ⟨rfl, rfl⟩
      gi_wp2
      refine ⟨trivial, (callsIn_wide.2 (kt.out _)).mono ?_⟩
      rintro ee wx ⟨rfl, rfl⟩
      gi_wp2
      refine ⟨trivial, (callsIn_wide.2 (simpleOrds_any _)).mono ?_⟩
      rintro ee wx ⟨rfl, rfl⟩
      gi_wp2
      have Hseq := Lib.hid (simpleOrds1_seq 19 w.heap.size (w.heap.size + 4) (w2.heap.size + 2) w2 (Nat.le_refl _))
      clear z2 z3 z4 z5 f4 f5
      refine wpIn_rangeX rfl (by omega) (gf := 87) (lb := #[]) rfl trivial (enters_of Try.func87 (by kernel_rfl) rfl)
        Hseq.out (by omega) (Below.refl _ _) (fun _ => rfl) (fun i x W l o o' hg _ ho hc => ⟨hg.1, hg.2.1, ownsRow_putObj hg.2.2 o' ho hc⟩) (LkI w n goal) (LkX w n goal (w2.heap.size + 2)) ?hI ?hIx hI0
        (fun x => { tmps := #[.int .i64 n, .int .i64 goal, .pointer (some ⟨w.heap.size, 0, none⟩), .pointer (some ⟨w.heap.size + 1, 0, none⟩), .pointer (some ⟨w.heap.size + 1 + 1, 0, none⟩), .pointer (some ⟨w.heap.size + 1 + 1 + 1, 0, none⟩), .slice (some ⟨x.1, 0, none⟩) x.2.1 x.2.2, undef, undef, .int .i64 n, .bool true, .bool false, .bool false, .int .i64 goal, .bool true, .bool false, .bool false, .func (.func 87) #[] #[], .slice (some ⟨x.1, 0, none⟩) x.2.1 x.2.2, undef, undef, undef, undef, undef, undef, undef, undef, undef, undef], defers := [] }) ?assign ?body ?done ?stop
      case hI =>
        rintro m A C row h hg hr
        have hup : ∀ r, row = some r → w2.heap.size ≤ r := fun r e => (hr r e).1
        exact ⟨h.b2.kept hg (fun e => by have := hup _ e.symm; omega), h.b3.kept hg (fun e => by have := hup _ e.symm; omega), h.b4.kept hg (fun e => by have := hup _ e.symm; omega), h.b5.kept hg (fun e => by have := hup _ e.symm; omega), h.below.grown hg h.below.size (fun k e => by have := hup k e; omega), h.none⟩
      case hIx =>
        rintro c m A C row ⟨hc, m', g, len, cap, he, hm, hh, hl, hlen, b4, own, b5, hb⟩ hg hr
        have hup : ∀ r, row = some r → w2.heap.size ≤ r := fun r e => (hr r e).1
        refine ⟨hc, m', g, len, cap, he, hm, hh, hl, hlen, b4.kept hg (fun e => by have := hup _ e.symm; omega), own.kept hg (.inr (fun e => ?_)), b5.kept hg (fun e => by have := hup _ e.symm; omega), hb.grown hg hb.size (fun k e => by have := hup k e; omega)⟩
        obtain ⟨k1, k2⟩ := hr g e.symm
        have h9 := (own.lt g rfl).1
        rcases k2 with k2 | ⟨o, ho, hoc⟩
        · omega
        · rcases own.2 with ⟨h8, _⟩ | ⟨g', cap', cur, h8, _, h7, _⟩
          · cases h8
          · cases h8
            rw [ho] at h7
            cases h7
            cases hoc
      case assign =>
        rintro l ⟨xg, xn, xc⟩ W K hK
        dsimp only [encsL]
        gi_wp2
        exact hK
      case body =>
        rintro l i ⟨xg, xn, xc⟩ Wr hl' hI ⟨hi9, hxn, hown⟩
        dsimp only at hxn hown ⊢
        have HI := Lib.hid hI
        have z2 := hI.b2.cell
        have kG := Lib.hid (impl_Grow (some ⟨xg, 0, none⟩) xn xc (T.sO i).enc n Wr (by rw [hxn] at hown ⊢; exact Sl.of_own hown) hn0 hn1)
        obtain ⟨e, he⟩ : ∃ e, e = T.growE (T.sO i).enc n := ⟨_, rfl⟩
        rw [← he] at kG
        have He := Lib.hid he
        have Hown := Lib.hid hown
        have Hxn := Lib.hid hxn
        have hsW := hI.below.size
        clear hI he hown hxn
        gi_wp2
        refine ⟨trivial, (CallsIn.inRound l (callsIn_wide.2 kG.out)).mono ?_⟩
        rintro ee w5 ⟨rfl, hb5⟩
        have hl2 := HI.out.b2.lt
        have hl5 := HI.out.b5.lt
        have B2 := Lib.hid (Boxed.belowL HI.out.b2 hb5 hl2)
        have B3 := Lib.hid (Boxed.belowL HI.out.b3 hb5 (by omega))
        have B4 := Lib.hid (Boxed.belowL HI.out.b4 hb5 (by omega))
        have B5 := Lib.hid (Boxed.belowL HI.out.b5 hb5 hl5)
        have y3 := B3.out.cell
        have y4 := B4.out.cell
        have y5 := B5.out.cell
        have g4 := B4.out.frozen
        have g5 := B5.out.frozen
        have Hb5 := Lib.hid (HI.out.below.trans (hb5.mono hsW))
        have HKO := Lib.hid (KO.of_below (lo := w.heap.size) (hi := w.heap.size + 4) hb5)
        have Ho5 := Lib.hid (ownsRow_below' Hown.out hb5)
        clear hb5 z2
        by_cases hh : goal ≤ e
        · have HH := Lib.hid (show T.hit n goal i by unfold T.hit; rw [← He.out]; exact hh)
          have hgB : w2.heap.size + 2 ≤ xg := (Ho5.out.lt xg rfl).1
          gi_wp2
          refine ⟨(HKO.out.setCell _ _ ⟨by omega, by omega⟩).setCell _ _ ⟨by omega, by omega⟩, rfl, i, xg, xn, xc, rfl, hi9, HH, HI.out.none, Hxn.out, (B4.out.set _).other (by omega) _, ?_, (B5.out.other (by omega) _).set _, (Hb5.out.setCell (p := ⟨w.heap.size + 1 + 1, 0, none⟩) (by show w.heap.size ≤ w.heap.size + 1 + 1; omega) _).setCell (p := ⟨w.heap.size + 1 + 1 + 1, 0, none⟩) (by show w.heap.size ≤ w.heap.size + 1 + 1 + 1; omega) _⟩
          exact ownsRow_setCell_below (ownsRow_setCell_below Ho5.out (a := ⟨w.heap.size + 1 + 1, 0, none⟩) (by show w.heap.size + 1 + 1 < w2.heap.size + 2; omega) _) (a := ⟨w.heap.size + 1 + 1 + 1, 0, none⟩) (by show w.heap.size + 1 + 1 + 1 < w2.heap.size + 2; omega) _
        · have HN := Lib.hid (show ∀ j, j < i + 1 → ¬ T.hit n goal j from fun j hj => by
            by_cases hji : j = i
            · subst hji
              unfold T.hit
              rw [← He.out]
              exact hh
            · exact HI.out.none.out j (by omega))
          gi_wp2
          exact ⟨HKO.out, B2.out, B3.out, B4.out, B5.out, Hb5.out, HN⟩
      case done =>
        rintro D m Wd hD hm9 hI hK
        obtain rfl : m = 199 := hm9
        obtain ⟨q1, q2⟩ := HL.out none (T.leastI_none hI.none.out)
        have Q1 := Lib.hid q1
        have Q2 := Lib.hid q2
        have HI := Lib.hid hI
        have HK := Lib.hid hK
        have z4 := hI.b4.cell
        have z5 := hI.b5.cell
        have f4 := hI.b4.frozen
        have f5 := hI.b5.frozen
        have hl4 : w.heap.size + 1 + 1 ≠ D := by omega
        have hl5 : w.heap.size + 1 + 1 + 1 ≠ D := by omega
        have hDl : D < Wd.heap.size := (Array.getElem?_eq_some_iff.1 hK).1
        clear hI hK q1 q2
        gi_wp2
        obtain ⟨y4, y5⟩ := two_setL z4 z5 (.slice none 0 0) (.bool false)
        have hK2 : ((Wd.setCell ⟨w.heap.size + 1 + 1, 0, none⟩ (.slice none 0 0)).setCell ⟨w.heap.size + 1 + 1 + 1, 0, none⟩ (.bool false)).heap[D]? = some (.deferred (some [])) :=
          ((grownBy_setCell' _ _ _).block D (by rw [show (Wd.setCell ⟨w.heap.size + 1 + 1, 0, none⟩ (.slice none 0 0)).heap.size = Wd.heap.size by simp [World.setCell]]; exact hDl) (fun e => hl5 (Option.some.inj e).symm)).trans (((grownBy_setCell' _ _ _).block D hDl (fun e => hl4 (Option.some.inj e).symm)).trans HK.out)
        refine ⟨by simp, .inl ⟨_, _, rfl, run_takeDeferred hK2, ?_⟩⟩
        have hbd := (HI.out.below.setCell (p := ⟨w.heap.size + 1 + 1, 0, none⟩) (by show w.heap.size ≤ w.heap.size + 1 + 1; omega) (.slice none 0 0)).setCell (p := ⟨w.heap.size + 1 + 1 + 1, 0, none⟩) (by show w.heap.size ≤ w.heap.size + 1 + 1 + 1; omega) (.bool false)
        have hfin := hbd.grown (grownBy_putObj' _ D (.deferred none)) hbd.size (fun k e => by cases e; omega)
        refine least_out rfl rfl ((World.cell?_of_block (World.putObj_heap_other hl4)).trans y4) ((World.cell?_of_block (World.putObj_heap_other hl5)).trans y5) ⟨none, 0, ?_, ?_, hfin⟩
        · rw [Q1.out, Q2.out]; rfl
        · rw [Q1.out]; exact ⟨rfl, .inl ⟨rfl, rfl⟩⟩
      case stop =>
        rintro D c m Wd hD _ ⟨rfl, m', g, len, cap, rfl, hm, hh, hl, hlen, b4, own, b5, hb⟩ hK
        obtain ⟨q1, q2⟩ := HL.out (some m') (T.leastI_some hm hh.out hl.out)
        have y4 : (Wd.putObj D (.deferred none)).cell? ⟨w.heap.size + 1 + 1, 0, none⟩ = some (.slice (some ⟨g, 0, none⟩) len cap) := (b4.kept (grownBy_putObj' Wd D _) (fun e => by have h : w.heap.size + 1 + 1 = D := Option.some.inj e; omega)).cell
        have y5 : (Wd.putObj D (.deferred none)).cell? ⟨w.heap.size + 1 + 1 + 1, 0, none⟩ = some (.bool true) := (b5.kept (grownBy_putObj' Wd D _) (fun e => by have h : w.heap.size + 1 + 1 + 1 = D := Option.some.inj e; omega)).cell
        have hbD : Below w.heap.size w (Wd.putObj D (.deferred none)) := hb.grown (grownBy_putObj' Wd D _) hb.size (fun k e => by cases e; omega)
        have hoD := ownsRow_putObj own (.deferred none) hK rfl
        gi_wp2
        refine ⟨by simp, .inl ⟨_, _, rfl, run_takeDeferred hK, ?_⟩⟩
        refine least_out rfl rfl y4 y5 ⟨some ⟨g, 0, none⟩, cap, ?_, ?_, hbD⟩
        · rw [q1, q2, hlen]; rfl
        · rw [q1]
          simp only [bestRow]
          rw [hlen] at hoD
          exact Joins.ownsRow_le (base' := w.heap.size) hoD (by omega)
    · rw [decide_eq_false h2] at kt
      rw [T.leastRow, T.leastOk, if_neg (fun h => h2 h.2), if_neg (fun h => h2 h.2)]
      refine callsIn_of_wp_marks Try.func28 rfl trivial ?_ rfl
      simp only [Try.ntmps28, List.size_toArray, List.length_cons, List.length_nil, Nat.reduceAdd, Nat.reduceSub, Array.replicate_succ, Array.replicate_zero, List.push_toArray, List.append_toArray, List.nil_append, List.cons_append]
      gi_wp2
      rw [HWW.out]
      gi_wp2
      refine ⟨trivial, (callsIn_wide.2 (ks.out _)).mono ?_⟩
      rintro ee wx ⟨rfl, rfl⟩
      gi_wp2
      refine ⟨trivial, (callsIn_wide.2 (kt.out _)).mono ?_⟩
      rintro ee wx ⟨rfl, rfl⟩
      gi_wp2
      obtain ⟨y4, y5⟩ := two_setL z4 z5 (.slice none 0 0) (.bool false)
      have hbd := (hw2.setCell (p := ⟨w.heap.size + 1 + 1, 0, none⟩) (by show w.heap.size ≤ w.heap.size + 1 + 1; omega) (.slice none 0 0)).setCell (p := ⟨w.heap.size + 1 + 1 + 1, 0, none⟩) (by show w.heap.size ≤ w.heap.size + 1 + 1 + 1; omega) (.bool false)
      exact least_out rfl rfl y4 y5 ⟨none, 0, rfl, ⟨rfl, .inl ⟨rfl, rfl⟩⟩, hbd⟩
  · rw [decide_eq_false h1] at ks
    rw [T.leastRow, T.leastOk, if_neg (fun h => h1 h.1), if_neg (fun h => h1 h.1)]
    refine callsIn_of_wp_marks Try.func28 rfl trivial ?_ rfl
    simp only [Try.ntmps28, List.size_toArray, List.length_cons, List.length_nil, Nat.reduceAdd, Nat.reduceSub, Array.replicate_succ, Array.replicate_zero, List.push_toArray, List.append_toArray, List.nil_append, List.cons_append]
    gi_wp2
    rw [HWW.out]
    gi_wp2
    refine ⟨trivial, (callsIn_wide.2 (ks.out _)).mono ?_⟩
    rintro ee wx ⟨rfl, rfl⟩
    gi_wp2
    refine ⟨trivial, ?_⟩
    gi_wp2
    obtain ⟨y4, y5⟩ := two_setL z4 z5 (.slice none 0 0) (.bool false)
    have hbd := (hw2.setCell (p := ⟨w.heap.size + 1 + 1, 0, none⟩) (by show w.heap.size ≤ w.heap.size + 1 + 1; omega) (.slice none 0 0)).setCell (p := ⟨w.heap.size + 1 + 1 + 1, 0, none⟩) (by show w.heap.size ≤ w.heap.size + 1 + 1 + 1; omega) (.bool false)
    exact least_out rfl rfl y4 y5 ⟨none, 0, rfl, ⟨rfl, .inl ⟨rfl, rfl⟩⟩, hbd⟩
end Go.Proofs.Ythalogciiochfaa

/- LeastE -/
/- What the law of GrowLeast says, on rows. -/
namespace Go.Proofs.Ythalogciiochfaa
set_option maxRecDepth 100000
namespace T

theorem leastI_spec {n goal : Int} {i : Nat} (h : leastI n goal = some i) : i < 199 ∧ hit n goal i ∧ ∀ j, j < i → ¬ hit n goal j := by
  rw [leastI, List.find?_range_eq_some] at h
  obtain ⟨h1, h2, h3⟩ := h
  exact ⟨by simpa using h2, by simpa using h1, fun j hj => by simpa using h3 j hj⟩
theorem leastI_hit {n goal : Int} {i : Nat} (h : i < 199) (hi : hit n goal i) : ∃ j, leastI n goal = some j ∧ j ≤ i := by
  cases hl : leastI n goal with
  | none =>
    rw [leastI, List.find?_range_eq_none] at hl
    have := hl i h
    simp [hi] at this
  | some j =>
    obtain ⟨_, _, h3⟩ := leastI_spec hl
    refine ⟨j, rfl, ?_⟩
    rcases Nat.lt_or_ge i j with h4 | h4
    · exact absurd hi (h3 i h4)
    · exact h4
theorem sO_le {i j : Nat} (h : j ≤ i) (hi : i < 199) : cmpRow (sO j).enc (sO i).enc = -1 ∨ cmpRow (sO j).enc (sO i).enc = 0 := by
  rw [cmpRow_val (sO_vld (show j < 199 by omega)) (sO_vld hi), of_enc, of_enc]
  rcases Nat.lt_or_ge j i with h1 | h1
  · exact .inl (sO_cmp h1 hi)
  · obtain rfl : i = j := by omega
    exact .inr (cmp_refl _)
theorem least_cases (n goal : Int) : (leastOk n goal = false ∧ leastRow n goal = []) ∨
    (leastOk n goal = true ∧ goal ≤ growE (leastRow n goal) n ∧ 1 ≤ goal ∧ ((goal = 1 ∧ leastOk n (goal - 1) = false) ∨ (goal ≠ 1 ∧ leastOk n (goal - 1) = true ∧ (cmpRow (leastRow n (goal - 1)) (leastRow n goal) = -1 ∨ cmpRow (leastRow n (goal - 1)) (leastRow n goal) = 0)))) := by
  by_cases hv : (1 ≤ n ∧ n ≤ 90) ∧ 1 ≤ goal ∧ goal ≤ 90
  · cases hl : leastI n goal with
    | none => left; exact ⟨by rw [leastOk, if_pos hv, hl]; rfl, by rw [leastRow, if_pos hv, hl]⟩
    | some i =>
      right
      obtain ⟨h1, h2, _⟩ := leastI_spec hl
      have hr : leastRow n goal = (sO i).enc := by rw [leastRow, if_pos hv, hl]
      refine ⟨by rw [leastOk, if_pos hv, hl]; rfl, by rw [hr]; exact h2, hv.2.1, ?_⟩
      by_cases hg : goal = 1
      · left
        exact ⟨hg, by rw [leastOk, if_neg (by omega)]⟩
      · right
        have hv2 : (1 ≤ n ∧ n ≤ 90) ∧ 1 ≤ goal - 1 ∧ goal - 1 ≤ 90 := by omega
        have h3 : hit n (goal - 1) i := by unfold hit at *; omega
        obtain ⟨j, h4, h5⟩ := leastI_hit h1 h3
        have hr2 : leastRow n (goal - 1) = (sO j).enc := by rw [leastRow, if_pos hv2, h4]
        refine ⟨hg, by rw [leastOk, if_pos hv2, h4]; rfl, ?_⟩
        rw [hr, hr2]
        exact sO_le h5 h1
  · left; exact ⟨by rw [leastOk, if_neg hv], by rw [leastRow, if_neg hv]⟩

end T
end Go.Proofs.Ythalogciiochfaa

/- DrawIt -/
/- What the laws of Iterate and GrowLeast draw. -/
namespace Go.Proofs.Ythalogciiochfaa
set_option maxRecDepth 100000
open Go.RowKit

def DrawInts (lo hi lo2 hi2 : Int) (w : World) (e : Ending) (w' : World) : Prop :=
  ∃ l v : Int, e = .returned (.tuple #[.int .i64 l, .int .i64 v]) ∧ lo ≤ l ∧ l ≤ hi ∧ lo2 ≤ v ∧ v ≤ hi2 ∧ Below w.heap.size w w'

set_option maxHeartbeats 4000000 in
theorem drawIterate_any (a : Option Addr) (len cap : Nat) (w : World) (h : By w a len cap) : Calls Try.prog 19 #[.slice a len cap] w (DrawInts (-2) 10 (-6) 46 w) := by
  have k0 := Lib.hid (open_any a len cap w h)
  obtain ⟨g, hg⟩ : ∃ g, g = w.heap.size := ⟨_, rfl⟩
  rw [← hg] at k0
  have Hg := Lib.hid hg
  clear hg h
  go_enter Try.func19, Try.ntmps19
  go_wp2_with fail
  refine (k0.out).mono ?_
  rintro ee w1 ⟨rfl, hr0, hb1⟩
  have Hb1 := Lib.hid hb1
  have hs1 : g ≤ w1.heap.size := by have := hb1.size; have := Hg.out; omega
  clear hb1
  have k1 := Lib.hid (pick_any g 0 4 w1 (by omega) (by decide) (by decide) hr0)
  clear hr0
  go_wp2_with fail
  refine (k1.out).mono ?_
  rintro ee u1 ⟨x1, rfl, hx1, hr1, hg1⟩
  have hx10 := hx1.1
  have hx11 := hx1.2.1 (by decide)
  have Hg1 := Lib.hid hg1
  have k2 := Lib.hid (pick_any g 1 12 u1 (by omega) (by decide) (by decide) hr1)
  clear hr1 hx1 hg1
  go_wp2_with fail
  refine (k2.out).mono ?_
  rintro ee u2 ⟨x2, rfl, hx2, hr2, hg2⟩
  have hx20 := hx2.1
  have hx21 := hx2.2.1 (by decide)
  have Hg2 := Lib.hid (grownBy_trans Hg1.out hg2)
  have hd2 : 0 ≤ x2 / 11 := by omega
  have he2 : x2 / 11 ≤ 1 := by omega
  have q2 : x2.tdiv 11 = x2 / 11 := Int.tdiv_eq_ediv_of_nonneg hx20
  have k3 := Lib.hid (pick_any g 2 30 u2 (by omega) (by decide) (by decide) hr2)
  clear hr2 hx2 hg2
  go_wp2_with fail
  refine (k3.out).mono ?_
  rintro ee u3 ⟨x3, rfl, hx3, hr3, hg3⟩
  have hx30 := hx3.1
  have hx31 := hx3.2.1 (by decide)
  have Hg3 := Lib.hid (grownBy_trans Hg2.out hg3)
  have hd3 : 0 ≤ x3 / 29 := by omega
  have he3 : x3 / 29 ≤ 1 := by omega
  have q3 : x3.tdiv 29 = x3 / 29 := Int.tdiv_eq_ediv_of_nonneg hx30
  have k4 := Lib.hid (pick_any g 3 6 u3 (by omega) (by decide) (by decide) hr3)
  clear hr3 hx3 hg3
  go_wp2_with fail
  refine (k4.out).mono ?_
  rintro ee u4 ⟨x4, rfl, hx4, hr4, hg4⟩
  have hx40 := hx4.1
  have hx41 := hx4.2.1 (by decide)
  have Hg4 := Lib.hid (grownBy_trans Hg3.out hg4)
  have k5 := Lib.hid (pick_any g 4 12 u4 (by omega) (by decide) (by decide) hr4)
  clear hr4 hx4 hg4
  go_wp2_with fail
  refine (k5.out).mono ?_
  rintro ee u5 ⟨x5, rfl, hx5, hr5, hg5⟩
  have hx50 := hx5.1
  have hx51 := hx5.2.1 (by decide)
  have Hg5 := Lib.hid (grownBy_trans Hg4.out hg5)
  have hd5 : 0 ≤ x5 / 11 := by omega
  have he5 : x5 / 11 ≤ 1 := by omega
  have q5 : x5.tdiv 11 = x5 / 11 := Int.tdiv_eq_ediv_of_nonneg hx50
  have k6 := Lib.hid (pick_any g 5 30 u5 (by omega) (by decide) (by decide) hr5)
  clear hr5 hx5 hg5
  go_wp2_with fail
  refine (k6.out).mono ?_
  rintro ee u6 ⟨x6, rfl, hx6, hr6, hg6⟩
  have hx60 := hx6.1
  have hx61 := hx6.2.1 (by decide)
  have Hg6 := Lib.hid (grownBy_trans Hg5.out hg6)
  have hd6 : 0 ≤ x6 / 29 := by omega
  have he6 : x6 / 29 ≤ 1 := by omega
  have q6 : x6.tdiv 29 = x6 / 29 := Int.tdiv_eq_ediv_of_nonneg hx60
  clear hr6 hx6 hg6
  go_wp2_with fail
  go_ret2
  exact ⟨_, _, rfl, by omega, by omega, by omega, by omega, by rw [← Hg.out]; exact Hb1.out.grown Hg6.out hs1 (fun k e => by cases e; exact Nat.le_refl _)⟩
set_option maxHeartbeats 4000000 in
theorem drawGrowLeast_any (a : Option Addr) (len cap : Nat) (w : World) (h : By w a len cap) : Calls Try.prog 27 #[.slice a len cap] w (DrawInts 1 5 1 120 w) := by
  have k0 := Lib.hid (open_any a len cap w h)
  obtain ⟨g, hg⟩ : ∃ g, g = w.heap.size := ⟨_, rfl⟩
  rw [← hg] at k0
  have Hg := Lib.hid hg
  clear hg h
  go_enter Try.func27, Try.ntmps27
  go_wp2_with fail
  refine (k0.out).mono ?_
  rintro ee w1 ⟨rfl, hr0, hb1⟩
  have Hb1 := Lib.hid hb1
  have hs1 : g ≤ w1.heap.size := by have := hb1.size; have := Hg.out; omega
  clear hb1
  have k1 := Lib.hid (pick_any g 0 5 w1 (by omega) (by decide) (by decide) hr0)
  clear hr0
  go_wp2_with fail
  refine (k1.out).mono ?_
  rintro ee u1 ⟨x1, rfl, hx1, hr1, hg1⟩
  have hx10 := hx1.1
  have hx11 := hx1.2.1 (by decide)
  have Hg1 := Lib.hid hg1
  have k2 := Lib.hid (pick_any g 1 60 u1 (by omega) (by decide) (by decide) hr1)
  clear hr1 hx1 hg1
  go_wp2_with fail
  refine (k2.out).mono ?_
  rintro ee u2 ⟨x2, rfl, hx2, hr2, hg2⟩
  have hx20 := hx2.1
  have hx21 := hx2.2.1 (by decide)
  have Hg2 := Lib.hid (grownBy_trans Hg1.out hg2)
  have k3 := Lib.hid (pick_any g 2 20 u2 (by omega) (by decide) (by decide) hr2)
  clear hr2 hx2 hg2
  go_wp2_with fail
  refine (k3.out).mono ?_
  rintro ee u3 ⟨x3, rfl, hx3, hr3, hg3⟩
  have hx30 := hx3.1
  have hx31 := hx3.2.1 (by decide)
  have Hg3 := Lib.hid (grownBy_trans Hg2.out hg3)
  have hd3 : 0 ≤ x3 / 19 := by omega
  have he3 : x3 / 19 ≤ 1 := by omega
  have q3 : x3.tdiv 19 = x3 / 19 := Int.tdiv_eq_ediv_of_nonneg hx30
  clear hr3 hx3 hg3
  go_wp2_with fail
  go_ret2
  exact ⟨_, _, rfl, by omega, by omega, by omega, by omega, by rw [← Hg.out]; exact Hb1.out.grown Hg3.out hs1 (fun k e => by cases e; exact Nat.le_refl _)⟩
end Go.Proofs.Ythalogciiochfaa

/- LFnGrowLeast -/
/- FnGrowLeast: the walk of the law. -/
namespace Go.Proofs.Ythalogciiochfaa
set_option maxRecDepth 100000
open Go.RowKit

set_option maxHeartbeats 4000000 in
theorem fnGrowLeast_walk (a : Option Addr) (len cap : Nat) (w : World) (h : By w a len cap) :
    Calls Try.prog 6 #[.slice a len cap] w fun e w' => e = .returned (.bool true) ∧ Below w.heap.size w w' := by
  have hlm : len ≤ 9223372036854775807 := by have := h.1; have := h.2.1; unfold maxLen at this; omega
  by_cases hbig : 1048576 < len
  · clear h
    go_enter Try.func6, Try.ntmps6
    go_wp2_with fail
    go_ret
    exact ⟨rfl, Below.refl _ _⟩
  have k0 := Lib.hid (drawGrowLeast_any a len cap w h)
  clear h
  go_enter Try.func6, Try.ntmps6
  go_wp2_with fail
  refine (k0.out).mono ?_
  rintro ee w1 ⟨n, V, rfl, hl0, hl1, hV0, hV1, hb0⟩
  have Ht0 := Lib.hid hb0
  clear hb0
  have hc := T.least_cases n V
  have hrl : (T.leastRow n V).length ≤ 8 := T.leastRow_len n V
  obtain ⟨r, hr⟩ : ∃ r, r = T.leastRow n V := ⟨_, rfl⟩
  obtain ⟨o, ho⟩ : ∃ o, o = T.leastOk n V := ⟨_, rfl⟩
  obtain ⟨q, hq⟩ : ∃ q, q = T.leastRow n (V - 1) := ⟨_, rfl⟩
  obtain ⟨p, hp⟩ : ∃ p, p = T.leastOk n (V - 1) := ⟨_, rfl⟩
  rw [← hr] at hrl
  rw [← hr, ← ho, ← hq, ← hp] at hc
  have Hr := Lib.hid hr
  have Ho := Lib.hid ho
  have Hq := Lib.hid hq
  have Hp := Lib.hid hp
  clear hr ho hq hp
  have k1 := Lib.hid (impl_GrowLeast n V w1 (by omega) (by omega) (by omega) (by omega))
  unfold OrdOkPost at k1
  rw [← Hr.out, ← Ho.out] at k1
  go_wp2_with fail
  refine (k1.out).mono ?_
  rintro ee w101 ⟨aG, cG, rfl, ho, hb1⟩
  have Ht1 := Lib.hid (Ht0.out.trans (hb1.mono (by have h1 := Ht0.out.size; omega)))
  have G_1 := Lib.hid (Sl.of_own ho)
  clear hb1 ho
  have k2 := Lib.hid (spec_GrowLeast n V w101 (by omega) (by omega) (by omega) (by omega))
  unfold OrdOkPost at k2
  rw [← Hr.out, ← Ho.out] at k2
  go_wp2_with fail
  refine (k2.out).mono ?_
  rintro ee w102 ⟨aM, cM, rfl, ho, hb2⟩
  have Ht2 := Lib.hid (Ht1.out.trans (hb2.mono (by have h1 := Ht1.out.size; omega)))
  have G_2 := Lib.hid (G_1.out.below hb2)
  have M_2 := Lib.hid (Sl.of_own ho)
  clear hb2 ho
  have k3 := Lib.hid (sameInts_any aG aM r.length cG r.length cM r r w102 (by omega) G_2.out M_2.out)
  rw [eqB_refl] at k3
  go_wp2_with fail
  refine (k3.out).mono ?_
  rintro ee w103 ⟨rfl, hb3⟩
  have Ht3 := Lib.hid (Ht2.out.trans (hb3.mono (by have h1 := Ht2.out.size; omega)))
  have G_3 := Lib.hid (G_2.out.below hb3)
  have M_3 := Lib.hid (M_2.out.below hb3)
  clear hb3
  rcases hc with ⟨rfl, rfl⟩ | ⟨rfl, hge, hV, hc⟩
  · skip
    have k4 := Lib.hid (alive_any w103)
    go_wp2_with fail
    refine (k4.out).mono ?_
    rintro ee w104 ⟨rfl, hb4⟩
    have Ht4 := Lib.hid (Ht3.out.trans (hb4.mono (by have h1 := Ht3.out.size; omega)))
    have G_4 := Lib.hid (G_3.out.below hb4)
    have M_4 := Lib.hid (M_3.out.below hb4)
    clear hb4
    go_wp2_with fail
    go_ret
    exact ⟨rfl, Ht4.out⟩
  · obtain ⟨e, he⟩ : ∃ e, e = T.growE r n := ⟨_, rfl⟩
    rw [← he] at hge
    have He := Lib.hid he
    clear he
    have k5 := Lib.hid (impl_Grow aG r.length cG r n w103 G_3.out (by omega) (by omega))
    rw [← He.out] at k5
    go_wp2_with fail
    refine (k5.out).mono ?_
    rintro ee w105 ⟨rfl, hb5⟩
    have Ht5 := Lib.hid (Ht3.out.trans (hb5.mono (by have h1 := Ht3.out.size; omega)))
    have G_5 := Lib.hid (G_3.out.below hb5)
    have M_5 := Lib.hid (M_3.out.below hb5)
    clear hb5
    have k6 := Lib.hid (impl_GrowLeast n (V - 1) w105 (by omega) (by omega) (by omega) (by omega))
    unfold OrdOkPost at k6
    rw [← Hq.out, ← Hp.out] at k6
    go_wp2_with fail
    refine (k6.out).mono ?_
    rintro ee w106 ⟨aQ, cQ, rfl, ho, hb6⟩
    have Ht6 := Lib.hid (Ht5.out.trans (hb6.mono (by have h1 := Ht5.out.size; omega)))
    have G_6 := Lib.hid (G_5.out.below hb6)
    have M_6 := Lib.hid (M_5.out.below hb6)
    have Q_6 := Lib.hid (Sl.of_own ho)
    clear hb6 ho
    rcases hc with ⟨rfl, rfl⟩ | ⟨hV1n, rfl, hc⟩
    · skip
      go_wp2_with fail
      go_ret
      exact ⟨rfl, Ht6.out⟩
    · have hVb : (V == 1) = false := by simpa using hV1n
      rcases hc with hc | hc
      · have Hc := Lib.hid hc
        clear hc
        have k7 := Lib.hid (impl_OrdCompare aQ aG q.length cQ r.length cG q r w106 Q_6.out G_6.out)
        rw [Hc.out] at k7
        go_wp2_with fail
        refine (k7.out).mono ?_
        rintro ee w107 ⟨rfl, hb7⟩
        have Ht7 := Lib.hid (Ht6.out.trans (hb7.mono (by have h1 := Ht6.out.size; omega)))
        have G_7 := Lib.hid (G_6.out.below hb7)
        have M_7 := Lib.hid (M_6.out.below hb7)
        have Q_7 := Lib.hid (Q_6.out.below hb7)
        clear hb7
        go_wp2_with fail
        go_ret
        exact ⟨rfl, Ht7.out⟩
      · have Hc := Lib.hid hc
        clear hc
        have k8 := Lib.hid (impl_OrdCompare aQ aG q.length cQ r.length cG q r w106 Q_6.out G_6.out)
        rw [Hc.out] at k8
        go_wp2_with fail
        refine (k8.out).mono ?_
        rintro ee w108 ⟨rfl, hb8⟩
        have Ht8 := Lib.hid (Ht6.out.trans (hb8.mono (by have h1 := Ht6.out.size; omega)))
        have G_8 := Lib.hid (G_6.out.below hb8)
        have M_8 := Lib.hid (M_6.out.below hb8)
        have Q_8 := Lib.hid (Q_6.out.below hb8)
        clear hb8
        go_wp2_with fail
        go_ret
        exact ⟨rfl, Ht8.out⟩

end Go.Proofs.Ythalogciiochfaa
