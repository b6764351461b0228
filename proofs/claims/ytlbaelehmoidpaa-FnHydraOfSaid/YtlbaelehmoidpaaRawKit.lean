/- What the drawing of an ordinal leans on: terms put in between, and steps of the world. -/
import Derived.Test.YtlbaelehmoidpaaPick
import Derived.Test.YtlbaelehmoidpaaMakeS
namespace Go.Proofs.Ytlbaelehmoidpaa
set_option maxRecDepth 100000
open Go.RowKit

/-- Exponents, in blocks behind g. -/
def EG (w : World) (g : Nat) : T → List Value → Prop
  | .z, es => es = []
  | .c _ e r, es => ∃ b off cap es', es = .slice (some ⟨b, off, none⟩) e.enc.length cap :: es' ∧ g < b ∧ At w b off e.enc ∧ e.enc.length ≤ cap ∧ cap ≤ maxLen ∧ EG w g r es'

theorem EG.ec {w : World} {g : Nat} {t : T} {es : List Value} (h : EG w g t es) : EC w t es := by
  induction t generalizing es with
  | z => exact h
  | c n e r _ ih =>
    obtain ⟨b, off, cap, es', rfl, _, h1, h2, h3, h4⟩ := h
    exact ⟨b, off, cap, es', rfl, h1, h2, h3, ih h4⟩

theorem At.grow {w w' : World} {row : Option Nat} {b off : Nat} {xs : List Int} (h : At w b off xs) (hg : w.grownBy w' row) (hr : row ≠ some b) : At w' b off xs := by
  intro j hj
  exact hg.cell (a := ⟨b, off + j, none⟩) (h j hj) (fun e => hr e.symm)

/-- The exponents stay, whatever is done to the reader or to the rows themselves. -/
theorem EG.grow {w w' : World} {g : Nat} {row : Option Nat} {t : T} {es : List Value} (h : EG w g t es) (hg : w.grownBy w' row) (hr : ∀ k, row = some k → k ≤ g ∨ w.heap.size ≤ k) : EG w' g t es := by
  induction t generalizing es with
  | z => exact h
  | c n e r _ ih =>
    obtain ⟨b, off, cap, es', rfl, h0, h1, h2, h3, h4⟩ := h
    refine ⟨b, off, cap, es', rfl, h0, h1.grow hg (fun hb => ?_), h2, h3, ih h4⟩
    have := hr b hb
    have := h1.lt (T.enc_ne e)
    omega

theorem EG.below {w w' : World} {g : Nat} {t : T} {es : List Value} (h : EG w g t es) (hb : Below w.heap.size w w') : EG w' g t es := by
  induction t generalizing es with
  | z => exact h
  | c n e r _ ih =>
    obtain ⟨b, off, cap, es', rfl, h0, h1, h2, h3, h4⟩ := h
    exact ⟨b, off, cap, es', rfl, h0, h1.below hb (h1.lt (T.enc_ne e)), h2, h3, ih h4⟩

theorem EG.join {w : World} {g : Nat} {d u : T} {es fs : List Value} (h : EG w g d es) (k : EG w g u fs) : EG w g (d.app u) (es ++ fs) := by
  induction d generalizing es with
  | z => simp only [EG] at h; subst h; exact k
  | c n e r _ ih =>
    obtain ⟨b, off, cap, es', rfl, h0, h1, h2, h3, h4⟩ := h
    exact ⟨b, off, cap, _, rfl, h0, h1, h2, h3, ih h4⟩

theorem EG.part {w : World} {g : Nat} {d u : T} {es : List Value} (h : EG w g (d.app u) es) : EG w g d (es.take d.cnt) ∧ EG w g u (es.drop d.cnt) := by
  induction d generalizing es with
  | z => exact ⟨by simp [T.cnt, EG], by simpa [T.cnt, T.app] using h⟩
  | c n e r _ ih =>
    obtain ⟨b, off, cap, es', rfl, h0, h1, h2, h3, h4⟩ := h
    obtain ⟨k1, k2⟩ := ih h4
    exact ⟨⟨b, off, cap, es'.take r.cnt, by simp [T.cnt], h0, h1, h2, h3, k1⟩, by simpa [T.cnt] using k2⟩

theorem EG.renum {w : World} {g : Nat} {d e r : T} {n m : Int} {es : List Value} (h : EG w g (d.app (.c n e r)) es) : EG w g (d.app (.c m e r)) es := by
  induction d generalizing es with
  | z => exact h
  | c k f q _ ih =>
    obtain ⟨b, off, cap, cs', rfl, h0, h1, h2, h3, h4⟩ := h
    exact ⟨b, off, cap, _, rfl, h0, h1, h2, h3, ih h4⟩

/-- Two steps of the world. -/
theorem grownBy_step {w0 wr w1 : World} {g : Nat} {row : Option Nat} (h : w0.grownBy wr (some g)) (k : wr.grownBy w1 row) (hr : ∀ r, row = some r → r = g ∨ w0.heap.size ≤ r) : w0.grownBy w1 (some g) := by
  refine ⟨k.os.trans h.os, k.tape.trans h.tape, k.output.trans h.output, Nat.le_trans h.size k.size, fun i hi hne => ?_⟩
  rw [k.block i (Nat.lt_of_lt_of_le hi h.size) (fun e => ?_)]
  · exact h.block i hi hne
  · rcases hr i e.symm with h1 | h1
    · exact hne (by rw [h1])
    · omega

theorem below_grown {w w' : World} (h : Below w.heap.size w w') (row : Option Nat) : w.grownBy w' row := ⟨h.os, h.tape, h.output, h.size, fun k hk _ => h.block k hk⟩

/-- At a step of a region that draws its order: append to a row of the call's own, of whatever length. -/
theorem step_append_own {P : Program} {w : World} {ops : Array Oper} {o : Oper} {a : Act} {K : Act → World → Prop} {Q : Exit → Act → World → Prop} {E : Prop} (hgd : o.guard = none) (s x : Operand) (t : TypeId)
    (ho : o.op = .call { callee := .builtin .append, args := #[s, x], argTypes := #[t, t] })
    (base : Nat) (e : TypeId) (i : TypeInfo) (z : Value) (size bytes : Nat) (ht : P.underlying t = some (.slice e)) (hi : P.info? e = some i) (hz : i.zero = some z)
    (hsize : i.size = size) (hby : i.bytes = bytes) (hzs : z.cells.size = size) (hsz : 0 < size)
    (v : Value) (n : Nat) (xs : List Value) (hs : a.eval s = v) (hown : w.ownsRow base e size v n xs)
    (ad : Addr) (m c : Nat) (news : List Value) (hx : a.eval x = .slice (some ad) m c) (hl : news.length = m * size) (hnews : ∀ j u, news[j]? = some u → w.cell? (ad.add j) = some u) (h1 : ∀ u ∈ news, u.oneCell' = true)
    (h63 : n + m ≤ maxLen) (hbytes : (n + m) * bytes ≤ 140737488355328) (hbase : base ≤ w.heap.size)
    (h : ∀ v' w', w'.ownsRow base e size v' (n + m) (xs ++ news) → w.grownBy w' v.ownBlock → (v' = .slice none 0 0 ↔ v = .slice none 0 0 ∧ m = 0) → K (a.put o.dst v') w') :
    if Region.wanted o (yielded ops a.tmps) = true then Oper.wp P o a w K Q else E := by
  have hw : Region.wanted o (yielded ops a.tmps) = true := by simp [Region.wanted, hgd]
  rw [if_pos hw]
  exact wp_append_own w s x t ho base e i z size bytes ht hi hz hsize hby hzs hsz v n xs hs hown ad m c news hx hl hnews h1 h63 hbytes hbase h

/-- A row of the call's own that is no nil slice is a slice at the head of a block. -/
theorem own_some {w : World} {B e n size : Nat} {v : Value} {xs : List Value} (h : w.ownsRow B e size v n xs) (hn : ¬ v = .slice none 0 0) : ∃ g cap, v = .slice (some ⟨g, 0, none⟩) n cap ∧ B ≤ g ∧ g < w.heap.size ∧ n ≤ cap ∧ cap ≤ maxLen := by
  rcases h.2 with ⟨h1, _⟩ | ⟨g, cap, cur, rfl, h1, h2, h3, h4, _⟩
  · exact absurd h1 hn
  · exact ⟨g, cap, rfl, h1, (Array.getElem?_eq_some_iff.1 h2).1, h3, h4⟩

theorem raw_front {wz : World} {B n gt ct : Nat} {t d u : T} {o : Obj} (h : d.app u = t) (ho : wz.ownsRow B 3 1 (.slice (some ⟨gt, 0, none⟩) n ct) n (ints t.times)) :
    ∀ j x, (ints d.times)[j]? = some x → (wz.alloc o).drew.cell? ((⟨gt, 0, none⟩ : Addr).add j) = some x := by
  intro j x hx
  show (wz.alloc o).cell? _ = _
  have hj : j < d.times.length := by
    have := (List.getElem?_eq_some_iff.1 hx).1
    rwa [ints_len] at this
  have hl : n = t.times.length := by have := ho.1; rw [ints_len] at this; omega
  have hjn : j < n := by rw [hl, ← h, T.times_app, List.length_append]; omega
  rw [Addr.add_lit, Nat.zero_add, World.cell?_alloc_past _ _ _ (ho.lt gt rfl).2, ho.cellAt j (by omega), ← h, T.times_app]
  have e : ints (d.times ++ u.times) = ints d.times ++ ints u.times := by simp [ints]
  rw [e, List.getElem?_append_left (by rw [ints_len]; exact hj)]
  exact hx

theorem own_rd {w w' : World} {B e n size g : Nat} {v : Value} {xs : List Value} (h : w.ownsRow B e size v n xs) (hg : w.grownBy w' (some g)) (hB : g < B) : w'.ownsRow B e size v n xs :=
  h.kept hg (.inr (fun he => by have := (h.lt _ he).1; omega))

theorem ga (w : World) (o : Obj) (row : Option Nat) : w.grownBy (w.alloc o).drew row :=
  have h := World.grownBy_alloc w o row
  ⟨h.os, h.tape, h.output, h.size, h.block⟩

/-- The next step of a chain from wz on: only the reader or new rows are written. -/
theorem gs {wz W w' : World} {g : Nat} {row : Option Nat} (h : wz.grownBy W (some g)) (k : W.grownBy w' row) (hr : ∀ r, row = some r → wz.heap.size ≤ r) : wz.grownBy w' (some g) :=
  grownBy_step h k (fun r e => .inr (hr r e))

theorem rd_gs {W w' : World} {g P : Nat} {row : Option Nat} (h : RdOk W g P) (k : W.grownBy w' row) {s : Nat} (hs : g < s) (hr : ∀ r, row = some r → s ≤ r) : RdOk w' g P :=
  h.kept k (fun r e => by have := hr r e; omega)

theorem own0 {w : World} {B e n : Nat} {v : Value} {xs : List Value} (h : w.ownsRow B e 1 v (0 + n) ([] ++ xs)) : w.ownsRow B e 1 v n xs := by simpa using h

/-- The numbers from a place on, where they lie. -/
theorem raw_back {wz W : World} {B n gt ct a g : Nat} {t d u : T} (h : d.app u = t) (ha : d.cnt = a) (ho : wz.ownsRow B 3 1 (.slice (some ⟨gt, 0, none⟩) n ct) n (ints t.times)) (hG : wz.grownBy W (some g)) (hg : gt ≠ g) :
    ∀ j x, (ints u.times)[j]? = some x → W.cell? ((⟨gt, a, none⟩ : Addr).add j) = some x := by
  intro j x hx
  have hj : j < u.times.length := by
    have := (List.getElem?_eq_some_iff.1 hx).1
    rwa [ints_len] at this
  have hl : n = t.times.length := by have := ho.1; rw [ints_len] at this; omega
  have hdl := T.times_len d
  have hjn : a + j < n := by rw [hl, ← h, T.times_app, List.length_append]; omega
  rw [Addr.add_lit]
  refine hG.cell (a := ⟨gt, a + j, none⟩) ?_ (by simpa using hg)
  rw [ho.cellAt (a + j) (by omega), ← h, T.times_app]
  have e : ints (d.times ++ u.times) = ints d.times ++ ints u.times := by simp [ints]
  rw [e, List.getElem?_append_right (by rw [ints_len]; omega), ints_len, hdl, ha, Nat.add_sub_cancel_left]
  exact hx


/-- A row's things, where they lie, in a later world. -/
theorem row_front {wz W : World} {B e n ge ce g : Nat} {es : List Value} {o : Obj} (ho : wz.ownsRow B e 1 (.slice (some ⟨ge, 0, none⟩) n ce) n es) (hG : wz.grownBy W (some g)) (hg : ge ≠ g) :
    ∀ j x, es[j]? = some x → (W.alloc o).drew.cell? ((⟨ge, 0, none⟩ : Addr).add j) = some x := by
  intro j x hx
  show (W.alloc o).cell? _ = _
  have hj : j < es.length := (List.getElem?_eq_some_iff.1 hx).1
  have hl := ho.1
  rw [Addr.add_lit, Nat.zero_add, World.cell?_alloc_past _ _ _ (Nat.lt_of_lt_of_le (ho.lt ge rfl).2 hG.size)]
  refine hG.cell (a := ⟨ge, j, none⟩) ?_ (by simpa using hg)
  rw [ho.cellAt j (by omega)]
  exact hx

theorem no_news {ad : Addr} {w : World} : ∀ (j : Nat) (u : Value), ([] : List Value)[j]? = some u → w.cell? (ad.add j) = some u := by
  intro j u h
  simp at h

theorem EG.one {w : World} {g : Nat} {t : T} {es : List Value} (h : EG w g t es) : ∀ u ∈ es, u.oneCell' = true := by
  induction t generalizing es with
  | z => simp only [EG] at h; subst h; intro u hu; cases hu
  | c n e r _ ih =>
    obtain ⟨b, off, cap, es', rfl, _, _, _, _, h⟩ := h
    intro u hu
    rcases List.mem_cons.1 hu with rfl | hu
    · rfl
    · exact ih h u hu

/-- How long what is drawn can be, and how often the reader is asked. -/
def Lb : Nat → Nat
  | 0 => 3
  | d + 1 => 4 + 3 * Lb d
def Cb : Nat → Nat
  | 0 => 1
  | d + 1 => 13 + 3 * Cb d
theorem Lb_le {a b : Nat} (h : a ≤ b) : Lb a ≤ Lb b := by
  induction b generalizing a with
  | zero => rw [Nat.le_zero.1 h]; exact Nat.le_refl _
  | succ b ih =>
    cases a with
    | zero => have := ih (Nat.zero_le b); simp only [Lb] at this ⊢; omega
    | succ a => have := ih (Nat.le_of_succ_le_succ h); simp only [Lb]; omega
theorem Cb_le {a b : Nat} (h : a ≤ b) : Cb a ≤ Cb b := by
  induction b generalizing a with
  | zero => rw [Nat.le_zero.1 h]; exact Nat.le_refl _
  | succ b ih =>
    cases a with
    | zero => have := ih (Nat.zero_le b); simp only [Cb] at this ⊢; omega
    | succ a => have := ih (Nat.le_of_succ_le_succ h); simp only [Cb]; omega
theorem Lb_small {a : Nat} (h : a ≤ 3) : Lb a ≤ 1000 := Nat.le_trans (Lb_le h) (by decide)
theorem Cb_small {a : Nat} (h : a ≤ 3) : Cb a ≤ 1000 := Nat.le_trans (Cb_le h) (by decide)

end Go.Proofs.Ytlbaelehmoidpaa
