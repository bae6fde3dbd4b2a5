/-
  Numbers that a slice leads to, as the walks are told of them; rows of numbers that a call has made; appending to them.
  Boxes, rows and bytes across the worlds that a walk goes through. Plain facts.
  Rows of numbers across the worlds that a walk goes through. Plain facts.
  The number with which a content begins (nextS): how great it is and how many bytes it has, or what is wrong with it first. No program.
-/
import Derived.Test.YtklchpdpooikdaaGreatDoorChecked
import Derived.Test.YtklchpdpooikdaaGreatDoorXBaseToBts
import Derived.Laws.BytesArg
import Derived.Laws.Concat
namespace Go.Proofs.YtklchpdpooikdaaGreatDoor
open Go.RowKit

theorem Tryz.infoI : (Tryz.prog.info? 3).map (fun i => (i.zero, i.size, i.bytes)) = some (some (.int .i64 0), 1, 8) := by kernel_rfl

/-- The slice at 'ao', of n bytes and so much room, holds the bytes xs. -/
structure SrcI (w : World) (ao : Option Addr) (n cap : Nat) (xs : List Int) : Prop where
  hlen : xs.length = n
  hcap : n ≤ cap
  hmax : cap ≤ maxLen
  hnil : ao = none → n = 0 ∧ cap = 0
  hrd : xs ≠ [] → ∃ b off, ao = some ⟨b, off, none⟩ ∧ ∀ i, i < xs.length → w.cell? ⟨b, off + i, none⟩ = some (.int .i64 (xs.getD i 0))
  hbyt : ∀ x ∈ xs, -9223372036854775808 ≤ x ∧ x < 9223372036854775808

/-- A row of bytes that the call owns. -/
def OwnI (w : World) (base : Nat) (v : Value) (xs : List Int) : Prop := w.ownsRow base 3 1 v xs.length (xs.map (Value.int .i64))

theorem SrcI.carry {w w' : World} {ao : Option Addr} {n cap : Nat} {xs : List Int} (h : SrcI w ao n cap xs)
    (hb : ∀ b off, ao = some ⟨b, off, none⟩ → xs ≠ [] → b < w.heap.size → w'.heap[b]? = w.heap[b]?) : SrcI w' ao n cap xs := by
  refine ⟨h.hlen, h.hcap, h.hmax, h.hnil, ?_, h.hbyt⟩
  intro hx
  obtain ⟨b, off, he, hc⟩ := h.hrd hx
  refine ⟨b, off, he, fun i hi => ?_⟩
  have := hc i hi
  rw [← this]
  exact World.cell?_of_block (hb b off he hx (lt_of_cell this))

theorem SrcI.below {w w' : World} {ao : Option Addr} {n cap : Nat} {xs : List Int} (h : SrcI w ao n cap xs) (hb : Below w.heap.size w w') : SrcI w' ao n cap xs :=
  h.carry fun b _ _ _ hl => hb.block b hl

theorem SrcI.alloc {w : World} {ao : Option Addr} {n cap : Nat} {xs : List Int} (h : SrcI w ao n cap xs) (o : Obj) : SrcI (w.alloc o) ao n cap xs :=
  h.below ((Below.refl _ _).alloc (Nat.le_refl _) _)

theorem SrcI.drewN {w : World} {ao : Option Addr} {n cap : Nat} {xs : List Int} (h : SrcI w ao n cap xs) (q : Nat) : SrcI (w.drewN q) ao n cap xs :=
  h.carry fun _ _ _ _ _ => rfl

/-- What was owned before, by a base that is the heap's end, lies apart from what came in. -/
theorem SrcI.grown {w w' : World} {ao : Option Addr} {n cap : Nat} {xs : List Int} {row : Option Nat} (h : SrcI w ao n cap xs) (hg : w.grownBy w' row)
    (hne : ∀ b off, ao = some ⟨b, off, none⟩ → xs ≠ [] → some b ≠ row) : SrcI w' ao n cap xs :=
  h.carry fun b off he hx hl => hg.block b hl (hne b off he hx)

theorem OwnI.nil (w : World) (base : Nat) : OwnI w base (.slice none 0 0) [] := World.ownsRow_nil _ _ _ _

theorem OwnI.alloc {w : World} {base : Nat} {v : Value} {xs : List Int} (h : OwnI w base v xs) (o : Obj) : OwnI (w.alloc o) base v xs := World.ownsRow.alloc h o

theorem OwnI.lit {w : World} (base : Nat) (xs : List Int) (C : Array Value) (n : Nat) (hC : C = (xs.map (Value.int .i64)).toArray) (hn : xs.length = n) (hb : base ≤ w.heap.size) (hm : n ≤ maxLen) :
    OwnI (w.alloc (.cells C 3)) base (.slice (some ⟨w.heap.size, 0, none⟩) n n) xs := by
  subst hC
  have := own_lit (w := w) base 3 (xs.map (Value.int .i64)) n (by simpa using hn) hb hm
  unfold OwnI
  rw [hn]
  exact this

theorem OwnI.litAt {w : World} (base g : Nat) (xs : List Int) (C : Array Value) (n : Nat) (hC : C = (xs.map (Value.int .i64)).toArray) (hn : xs.length = n) (hg : g = w.heap.size) (hb : base ≤ w.heap.size) (hm : n ≤ maxLen) :
    OwnI (w.alloc (.cells C 3)) base (.slice (some ⟨g, 0, none⟩) n n) xs := by
  subst hg
  exact OwnI.lit base xs C n hC hn hb hm

theorem OwnI.split {w : World} {base : Nat} {v : Value} {xs : List Int} (h : OwnI w base v xs) :
    (v = .slice none 0 0 ∧ xs = []) ∨ ∃ g cap, v = .slice (some ⟨g, 0, none⟩) xs.length cap ∧ base ≤ g ∧ g < w.heap.size ∧ xs.length ≤ cap ∧ cap ≤ maxLen := by
  rcases own_split h with ⟨h1, _, h3⟩ | h
  · exact .inl ⟨h1, by simpa using h3⟩
  · exact .inr h

theorem OwnI.cell {w : World} {base g n cap : Nat} {xs : List Int} (h : OwnI w base (.slice (some ⟨g, 0, none⟩) n cap) xs) :
    ∀ i, i < xs.length → w.cell? ⟨g, i, none⟩ = some (.int .i64 (xs.getD i 0)) := by
  intro i hi
  have h1 := World.ownsRow.cells h (g := g) rfl i (.int .i64 (xs.getD i 0)) (by simp [List.getElem?_eq_getElem hi, List.getD])
  have h2 : (⟨g, 0, none⟩ : Addr).add i = ⟨g, i, none⟩ := by unfold Addr.add; split <;> simp_all
  rw [h2] at h1
  exact h1

theorem OwnI.frozen {w : World} {base g n cap : Nat} {xs : List Int} (h : OwnI w base (.slice (some ⟨g, 0, none⟩) n cap) xs) (j : Nat) : w.frozen? ⟨g, j, none⟩ = false := by
  obtain ⟨_, h⟩ := h
  rcases h with ⟨h, _⟩ | ⟨g', cap', cur, he, _, hh, _⟩
  · simp at h
  · simp at he
    obtain ⟨rfl, _, _⟩ := he
    simp [World.frozen?, hh]

theorem OwnI.eqlen {w : World} {base g n cap : Nat} {xs : List Int} (h : OwnI w base (.slice (some ⟨g, 0, none⟩) n cap) xs) : n = xs.length := by
  rcases OwnI.split h with ⟨h, _⟩ | ⟨g', cap', he, _⟩
  · simp at h
  · simp at he; exact he.2.1

/-- An owned row, cut at its end, is bytes that can be read. -/
theorem OwnI.src {w : World} {base g n cap : Nat} {xs ys : List Int} (h : OwnI w base (.slice (some ⟨g, 0, none⟩) n cap) xs) (hb : ∀ x ∈ xs, -9223372036854775808 ≤ x ∧ x < 9223372036854775808)
    (m : Nat) (hm : m ≤ n) (hy : ys = xs.take m) (hc : cap ≤ maxLen) : SrcI w (some ⟨g, 0, none⟩) m cap ys := by
  have hl := h.eqlen
  subst hy
  have hcap : n ≤ cap := by
    rcases OwnI.split h with ⟨h, _⟩ | ⟨g', cap', he, _, _, h2, _⟩
    · simp at h
    · simp at he; omega
  refine ⟨by simp; omega, by omega, hc, by simp, ?_, fun x hx => hb x (List.mem_of_mem_take hx)⟩
  intro _
  refine ⟨g, 0, rfl, fun i hi => ?_⟩
  have hi' : i < xs.length := by simp at hi; omega
  have := h.cell i hi'
  simp at hi
  rw [show 0 + i = i by omega, this]
  simp [List.getD, show i < m by omega]

theorem OwnI.stored {w : World} {base g n cap : Nat} {xs : List Int} (h : OwnI w base (.slice (some ⟨g, 0, none⟩) n cap) xs) (j : Nat) (u : Int) :
    OwnI (w.setCell ⟨g, j, none⟩ (.int .i64 u)) base (.slice (some ⟨g, 0, none⟩) n cap) (xs.set j u) ∧ w.grownBy (w.setCell ⟨g, j, none⟩ (.int .i64 u)) (some g) := by
  have hl := h.eqlen
  subst hl
  have := World.ownsRow.stored h j (.int .i64 u)
  refine ⟨?_, this.2⟩
  unfold OwnI
  rw [List.length_set, List.map_set]
  exact this.1

theorem OwnI.kept {w w' : World} {base : Nat} {v : Value} {xs : List Int} {row : Option Nat} (h : OwnI w base v xs) (hg : w.grownBy w' row) (hne : v.ownBlock = none ∨ v.ownBlock ≠ row) : OwnI w' base v xs :=
  World.ownsRow.kept h hg hne

theorem OwnI.below {w w' : World} {base B : Nat} {v : Value} {xs : List Int} (h : OwnI w base v xs) (hb : Below B w w') (hlt : ∀ k, v.ownBlock = some k → k < B) : OwnI w' base v xs := by
  obtain ⟨hl, h⟩ := h
  refine ⟨hl, ?_⟩
  rcases h with h | ⟨g, cap, cur, rfl, hbg, hh, r⟩
  · exact .inl h
  · exact .inr ⟨g, cap, cur, rfl, hbg, by rw [hb.block g (hlt g rfl)]; exact hh, r⟩

theorem OwnI.heap {w w' : World} {base : Nat} {v : Value} {xs : List Int} (h : OwnI w base v xs) (e : w'.heap = w.heap) : OwnI w' base v xs := by
  obtain ⟨hl, h⟩ := h
  refine ⟨hl, ?_⟩
  rw [e]
  exact h

theorem SrcI.heap {w w' : World} {ao : Option Addr} {n cap : Nat} {xs : List Int} (h : SrcI w ao n cap xs) (e : w'.heap = w.heap) : SrcI w' ao n cap xs :=
  h.carry fun _ _ _ _ _ => by rw [e]

theorem OwnI.setBelow {w : World} {base : Nat} {v : Value} {xs : List Int} (h : OwnI w base v xs) {a : Addr} (ha : a.block < base) (u : Value) : OwnI (w.setCell a u) base v xs :=
  ownsRow_setCell_below h ha u

theorem OwnI.rebase {w : World} {base base' : Nat} {v : Value} {xs : List Int} (h : OwnI w base v xs) (hb : base' ≤ base) : OwnI w base' v xs := by
  obtain ⟨hl, h⟩ := h
  refine ⟨hl, ?_⟩
  rcases h with h | ⟨g, cap, cur, rfl, hbg, r⟩
  · exact .inl h
  · exact .inr ⟨g, cap, cur, rfl, by omega, r⟩

theorem SrcI.lit {w : World} (xs : List Int) (C : Array Value) (n : Nat) (hC : C = (xs.map (Value.int .i64)).toArray) (hn : xs.length = n) (hb : ∀ x ∈ xs, -9223372036854775808 ≤ x ∧ x < 9223372036854775808) (hm : n ≤ 17592186044416) :
    SrcI (w.alloc (.cells C 3)) (some ⟨w.heap.size, 0, none⟩) n n xs :=
  (OwnI.lit 0 xs C n hC hn (Nat.zero_le _) (by unfold maxLen; omega)).src hb n (Nat.le_refl _) (by rw [← hn]; simp) (by unfold maxLen; omega)

theorem Tryz.sizeI : Tryz.prog.elem 114 = 3 := by kernel_rfl
theorem Tryz.sliceI : Tryz.prog.underlying 114 = some (.slice (Tryz.prog.elem 114)) := by rw [Tryz.sizeI]; exact Tryz.underlying114
theorem Tryz.sizeOfI (w : World) : (sizeOf (Tryz.prog.elem 114)).run Tryz.prog w = .ok 1 w := by rw [Tryz.sizeI]; kernel_rfl

theorem sliceI_hi (w : World) (ao : Option Addr) (n c : Nat) (h : Int) (m : Nat) (hm : h = (m : Int)) (hc : m ≤ c) :
    (Instr.slice 114 (.slice ao n c) none (some (.int .i64 h)) none).run Tryz.prog w = .ok (.slice (cutA ao c 0) m c) w := by
  subst hm
  rw [run_slice_h w _ _ _ _ Tryz.sliceI .i64 (m : Int) (by omega) (by omega), Tryz.sizeOfI]
  simp [sliced, cutA, Result.andThen]

theorem sliceI_lo (w : World) (ao : Option Addr) (n c : Nat) (h : Int) (m : Nat) (hm : h = (m : Int)) (hc : m ≤ n) :
    (Instr.slice 114 (.slice ao n c) (some (.int .i64 h)) none none).run Tryz.prog w = .ok (.slice (cutA ao c m) (n - m) (c - m)) w := by
  subst hm
  rw [run_slice_l w _ _ _ _ Tryz.sliceI .i64 (m : Int) (by omega) (by omega), Tryz.sizeOfI]
  simp [sliced, cutA, Result.andThen]

theorem sliceI_lh (w : World) (ao : Option Addr) (n c : Nat) (i j : Int) (l h : Nat) (hl : i = (l : Int)) (hh : j = (h : Int)) (hc : l ≤ h) (hd : h ≤ c) :
    (Instr.slice 114 (.slice ao n c) (some (.int .i64 i)) (some (.int .i64 j)) none).run Tryz.prog w = .ok (.slice (cutA ao c l) (h - l) (c - l)) w := by
  subst hl hh
  rw [run_slice_lh w _ _ _ _ Tryz.sliceI .i64 .i64 (l : Int) (h : Int) (by omega) (by omega) (by omega), Tryz.sizeOfI]
  simp [sliced, cutA, Result.andThen]

theorem SrcI.cut {w : World} {ao : Option Addr} {n c : Nat} {xs : List Int} (hs : SrcI w ao n c xs) (l h : Nat) (hl : l ≤ h) (hh : h ≤ n) :
    SrcI w (cutA ao c l) (h - l) (c - l) ((xs.take h).drop l) := by
  obtain ⟨h1, h2, h3, h4, h5, h6⟩ := hs
  refine ⟨by simp; omega, by omega, by omega, ?_, ?_, fun x hx => h6 x (List.mem_of_mem_take (List.mem_of_mem_drop hx))⟩
  · intro hc
    have : ao = none := by unfold cutA at hc; split at hc <;> simp_all
    have := h4 this
    omega
  · intro hne
    have hlh : l < h := by
      rcases Nat.lt_or_ge l h with h' | h'
      · exact h'
      · exact absurd (List.drop_eq_nil_of_le (by simp; omega)) hne
    obtain ⟨b, off, rfl, hc⟩ := h5 (by intro h'; simp [h'] at h1; omega)
    refine ⟨b, off + l, ?_, ?_⟩
    · unfold cutA; rw [if_neg (by omega)]; simp [add_none]
    · intro i hi
      simp at hi
      rw [show off + l + i = off + (l + i) by omega, hc (l + i) (by omega)]
      simp [List.getD, show l + i < h by omega]

theorem SrcI.litAt {w : World} (xs : List Int) (C : Array Value) (n g : Nat) (hC : C = (xs.map (Value.int .i64)).toArray) (hn : xs.length = n) (hb : ∀ x ∈ xs, -9223372036854775808 ≤ x ∧ x < 9223372036854775808) (hm : n ≤ 17592186044416) (hg : g = w.heap.size) :
    SrcI (w.alloc (.cells C 3)) (some ⟨g, 0, none⟩) n n xs := by
  subst hg
  exact SrcI.lit xs C n hC hn hb hm

/-- 'append(s, x...)' of bytes: s the call's own, x whatever. -/
theorem wpList_appIB {ops : Array Oper} {rest : List Oper} {o : Oper} {a : Act} {Q : Exit → Act → World → Prop} (w : World) (hgd : o.guard = none) (s x : Operand)
    (ho : o.op = .call { callee := .builtin .append, args := #[s, x], argTypes := #[114, 114] })
    (base : Nat) (v : Value) (xs : List Int) (hs : a.eval s = v) (hown : OwnI w base v xs)
    (ao : Option Addr) (m c : Nat) (ys : List Int) (hx : a.eval x = .slice ao m c) (hsrc : SrcI w ao m c ys)
    (hb : xs.length + m ≤ 17592186044416) (hbase : base ≤ w.heap.size)
    (h : ∀ v' w', OwnI w' base v' (xs ++ ys) → w.grownBy w' v.ownBlock → (v ≠ .slice none 0 0 → v' ≠ .slice none 0 0) → wpList Tryz.prog ops Q rest (a.put o.dst v') w') :
    wpList Tryz.prog ops Q (o :: rest) a w := by
  obtain ⟨i0, hi, hz0, hz1, hz2⟩ := info_parts Tryz.infoI
  obtain ⟨hlen, hcap, hmax, hnil, hrd, hbyt⟩ := hsrc
  cases ao with
  | none =>
    obtain ⟨rfl, rfl⟩ := hnil rfl
    obtain rfl : ys = [] := List.eq_nil_of_length_eq_zero hlen
    refine wpList_append_own_none hgd s x 114 ho base 3 i0 1 Tryz.underlying114 hi v _ _ hs hown hx ?_
    exact h v w (by simpa using hown) ⟨rfl, rfl, rfl, Nat.le_refl _, fun _ _ _ => rfl⟩ (fun h => h)
  | some ad =>
    refine wpList_append_own w hgd s x 114 ho base 3 i0 (.int .i64 0) 1 8 Tryz.underlying114 hi hz0 hz1 hz2 rfl (by decide) v _ _ hs hown ad m c (ys.map (Value.int .i64)) hx (by simpa using hlen) ?_ (ints_one _ _) (by unfold maxLen; omega) (by omega) hbase ?_
    · intro j u hj
      have hjl : j < ys.length := by
        rcases Nat.lt_or_ge j ys.length with h | h
        · exact h
        · simp [List.getElem?_eq_none (show (ys.map (Value.int .i64)).length ≤ j by simpa using h)] at hj
      obtain ⟨b, off, he, hc⟩ := hrd (by intro h; simp [h] at hjl)
      cases he
      have h2 : (⟨b, off, none⟩ : Addr).add j = ⟨b, off + j, none⟩ := by unfold Addr.add; split <;> simp_all
      rw [h2, hc j hjl]
      simp [List.getElem?_eq_getElem hjl] at hj
      subst hj
      simp [List.getD, List.getElem?_eq_getElem hjl]
    · intro v' w' h1 h2 h3
      refine h v' w' ?_ h2 ?_
      · unfold OwnI
        have e1 : (xs ++ ys).length = xs.length + m := by simp [hlen]
        rw [e1]
        simpa using h1
      · intro hv hv'
        exact hv (h3.1 hv').1

/-- The same where what comes of it is not nil: its shape is told. -/
theorem wpList_appIN {ops : Array Oper} {rest : List Oper} {o : Oper} {a : Act} {Q : Exit → Act → World → Prop} (w : World) (hgd : o.guard = none) (s x : Operand)
    (ho : o.op = .call { callee := .builtin .append, args := #[s, x], argTypes := #[114, 114] })
    (base : Nat) (v : Value) (xs : List Int) (hs : a.eval s = v) (hown : OwnI w base v xs)
    (ao : Option Addr) (m c : Nat) (ys : List Int) (hx : a.eval x = .slice ao m c) (hsrc : SrcI w ao m c ys)
    (t : Nat) (ht : (xs ++ ys).length = t) (hne : v ≠ .slice none 0 0 ∨ ys ≠ []) (hb : t ≤ 17592186044416) (hbase : base ≤ w.heap.size)
    (h : ∀ g c' w', OwnI w' base (.slice (some ⟨g, 0, none⟩) t c') (xs ++ ys) → base ≤ g → g < w'.heap.size → t ≤ c' → c' ≤ maxLen → w.grownBy w' v.ownBlock →
      wpList Tryz.prog ops Q rest (a.put o.dst (.slice (some ⟨g, 0, none⟩) t c')) w') :
    wpList Tryz.prog ops Q (o :: rest) a w := by
  have hl := hsrc.hlen
  have ht' : xs.length + m = t := by rw [← ht, List.length_append, hl]
  refine wpList_appIB w hgd s x ho base v xs hs hown ao m c ys hx hsrc (by omega) hbase ?_
  intro v' w' h1 h2 h3
  rcases h1.split with ⟨hv, hx'⟩ | ⟨g, c', hv, hb', hl', hc', hm'⟩
  · rcases hne with hne | hne
    · exact absurd hv (h3 hne)
    · simp at hx'; exact absurd hx'.2 hne
  · rw [ht] at hv hc'
    subst hv
    exact h g c' w' h1 hb' hl' hc' hm' h2

end Go.Proofs.YtklchpdpooikdaaGreatDoor

namespace Go.Proofs.YtklchpdpooikdaaGreatDoor
open Go.RowKit Go.IntWalk

theorem bcell {W w1 : World} (hb : Below W.heap.size W w1) : (∀ b o, b < W.heap.size → w1.cell? ⟨b, o, none⟩ = W.cell? ⟨b, o, none⟩) ∧ (∀ b o, b < W.heap.size → w1.frozen? ⟨b, o, none⟩ = W.frozen? ⟨b, o, none⟩) :=
  ⟨fun b o h => hb.cell (p := ⟨b, o, none⟩) h, fun b o h => hb.frozen (p := ⟨b, o, none⟩) h⟩

theorem OwnB.toSrc {w : World} {base m c : Nat} {ao : Option Addr} {xs : List Int} (h : OwnB w base (.slice ao m c) xs) (hb : ∀ x ∈ xs, 0 ≤ x ∧ x < 256) : Src w ao m c xs := by
  rcases h.split with ⟨he, hx⟩ | ⟨g, cap, he, h1, h2, h3, h4⟩
  · simp at he
    obtain ⟨rfl, rfl, rfl⟩ := he
    subst hx
    exact ⟨rfl, Nat.le_refl _, by decide, fun _ => ⟨rfl, rfl⟩, fun h => absurd rfl h, by simp⟩
  · simp at he
    obtain ⟨rfl, rfl, rfl⟩ := he
    exact h.src hb _ (Nat.le_refl _) (by simp) h4

/-- A box of two cells: a number and a value; neither is frozen. -/
structure Box (w : World) (b : Nat) (t : Int) (v : Value) : Prop where
  c0 : w.cell? ⟨b, 0, none⟩ = some (.int .i64 t)
  c1 : w.cell? ⟨b, 1, none⟩ = some v
  lt : b < w.heap.size
  fz : ∀ o, w.frozen? ⟨b, o, none⟩ = false

theorem Box.newAt (w : World) (b : Nat) (t : Int) (v : Value) (T : TypeId) (h : b = w.heap.size) : Box (w.alloc (.cells #[.int .i64 t, v] T)) b t v := by
  subst h
  exact ⟨by simp, by simp, by simp, by simp⟩
theorem Box.new (w : World) (t : Int) (v : Value) (T : TypeId) : Box (w.alloc (.cells #[.int .i64 t, v] T)) w.heap.size t v := Box.newAt w _ t v T rfl
theorem Box.below {w w' : World} {b : Nat} {t : Int} {v : Value} (h : Box w b t v) (hb : Below w.heap.size w w') : Box w' b t v :=
  ⟨(hb.cell (p := ⟨b, 0, none⟩) h.lt).trans h.c0, (hb.cell (p := ⟨b, 1, none⟩) h.lt).trans h.c1, Nat.lt_of_lt_of_le h.lt hb.size, fun o => (hb.frozen (p := ⟨b, o, none⟩) h.lt).trans (h.fz o)⟩
theorem Box.heap {w w' : World} {b : Nat} {t : Int} {v : Value} (h : Box w b t v) (e : w'.heap = w.heap) : Box w' b t v := by
  obtain ⟨h1, h2, h3, h4⟩ := h
  exact ⟨by unfold World.cell? at *; rw [e]; exact h1, by unfold World.cell? at *; rw [e]; exact h2, by rw [e]; exact h3, fun o => by have := h4 o; unfold World.frozen? at *; rw [e]; exact this⟩
theorem Box.belowH {w W w' : World} {b : Nat} {t : Int} {v : Value} (h : Box w b t v) (hb : Below W.heap.size W w') (e : W.heap = w.heap) : Box w' b t v := (h.heap e).below hb
theorem Box.alloc {w : World} {b : Nat} {t : Int} {v : Value} (h : Box w b t v) (o : Obj) : Box (w.alloc o) b t v := h.below ((Below.refl _ _).alloc (Nat.le_refl _) _)
theorem Box.grown {w w' : World} {b : Nat} {t : Int} {v : Value} {row : Option Nat} (h : Box w b t v) (hg : w.grownBy w' row) (hne : some b ≠ row) : Box w' b t v :=
  ⟨hg.cell h.c0 hne, hg.cell h.c1 hne, Nat.lt_of_lt_of_le h.lt hg.size, fun o => (World.frozen?_of_block (hg.block b h.lt hne)).trans (h.fz o)⟩

theorem OwnB.lt {w : World} {base : Nat} {v : Value} {xs : List Int} (h : OwnB w base v xs) : ∀ k, v.ownBlock = some k → base ≤ k ∧ k < w.heap.size := World.ownsRow.lt h

theorem OwnB.belowA {w w' : World} {base : Nat} {v : Value} {xs : List Int} (h : OwnB w base v xs) (hb : Below w.heap.size w w') : OwnB w' base v xs :=
  h.below hb (fun k hk => (h.lt k hk).2)

/-- Bytes that lie at or above a block number, or below it, are apart from a row that lies elsewhere. -/
theorem Src.apart {w w' : World} {ao : Option Addr} {n cap : Nat} {xs : List Int} {v : Value} (h : Src w ao n cap xs) (hg : w.grownBy w' v.ownBlock)
    (hne : ∀ b off, ao = some ⟨b, off, none⟩ → xs ≠ [] → v.ownBlock ≠ some b) : Src w' ao n cap xs :=
  h.grown hg fun b off he hx h' => hne b off he hx h'.symm

theorem own_apart {w u : World} {base base' n m c c' : Nat} {a a' : Option Addr} {xs ys : List Int} (h : OwnB w base (.slice a n c) xs) (h' : OwnB u base' (.slice a' m c') ys) (hlt : w.heap.size ≤ base') :
    ∀ b off, a' = some ⟨b, off, none⟩ → ys ≠ [] → (Value.slice a n c).ownBlock ≠ some b := by
  intro b off he _ hk
  subst he
  have h1 := (h.lt b hk).2
  have h2 := (h'.lt b rfl).1
  omega

theorem OwnB.ne_row {w : World} {base : Nat} {v : Value} {xs : List Int} (h : OwnB w base v xs) {b : Nat} (hb : b < base ∨ w.heap.size ≤ b) : some b ≠ v.ownBlock := by
  intro he
  have := h.lt b he.symm
  omega

theorem Src.blk {w : World} {ao : Option Addr} {n cap : Nat} {xs : List Int} (h : Src w ao n cap xs) : ∀ b off, ao = some ⟨b, off, none⟩ → xs ≠ [] → b < w.heap.size := by
  intro b off he hx
  obtain ⟨b', off', he', hc⟩ := h.hrd hx
  rw [he] at he'
  simp at he'
  obtain ⟨rfl, rfl⟩ := he'
  exact lt_of_cell (hc 0 (by cases xs with | nil => exact absurd rfl hx | cons a r => simp))

theorem Src.belowH {w W w' : World} {ao : Option Addr} {n cap : Nat} {xs : List Int} (h : Src w ao n cap xs) (hb : Below W.heap.size W w') (e : W.heap = w.heap) : Src w' ao n cap xs := (h.heap e).below hb

theorem step_below {B : Nat} {w a w' : World} (h : Below B w a) (hB : B ≤ a.heap.size) (o : Obj) (hb : Below (a.alloc o).heap.size (a.alloc o) w') : Below B w w' :=
  (h.alloc hB o).trans (hb.mono (by simp; omega))

/-- A world that has drawn more, and no more. -/
structure Drawn (w W : World) : Prop where
  os : W.os = w.os
  tape : W.tape = w.tape
  output : W.output = w.output
  heap : W.heap = w.heap

theorem Drawn.refl (w : World) : Drawn w w := ⟨rfl, rfl, rfl, rfl⟩
theorem Drawn.more {w W : World} (h : Drawn w W) (q : Nat) : Drawn w (W.drewN q) := ⟨h.os, h.tape, h.output, h.heap⟩
theorem Drawn.cell {w W : World} (h : Drawn w W) (a : Addr) : W.cell? a = w.cell? a := by unfold World.cell?; rw [h.heap]
theorem Drawn.below {w W w0 : World} {B : Nat} (h : Drawn w W) (hb : Below B w0 w) : Below B w0 W := ⟨h.os.trans hb.os, h.tape.trans hb.tape, h.output.trans hb.output, by rw [h.heap]; exact hb.size, fun k hk => by rw [h.heap]; exact hb.block k hk⟩

end Go.Proofs.YtklchpdpooikdaaGreatDoor

namespace Go.Proofs.YtklchpdpooikdaaGreatDoor
open Go.RowKit Go.IntWalk

theorem OwnI.toSrc {w : World} {base m c : Nat} {ao : Option Addr} {xs : List Int} (h : OwnI w base (.slice ao m c) xs) (hb : ∀ x ∈ xs, -9223372036854775808 ≤ x ∧ x < 9223372036854775808) : SrcI w ao m c xs := by
  rcases h.split with ⟨he, hx⟩ | ⟨g, cap, he, h1, h2, h3, h4⟩
  · simp at he
    obtain ⟨rfl, rfl, rfl⟩ := he
    subst hx
    exact ⟨rfl, Nat.le_refl _, by decide, fun _ => ⟨rfl, rfl⟩, fun h => absurd rfl h, by simp⟩
  · simp at he
    obtain ⟨rfl, rfl, rfl⟩ := he
    exact h.src hb _ (Nat.le_refl _) (by simp) h4

theorem OwnI.lt {w : World} {base : Nat} {v : Value} {xs : List Int} (h : OwnI w base v xs) : ∀ k, v.ownBlock = some k → base ≤ k ∧ k < w.heap.size := World.ownsRow.lt h

theorem OwnI.belowA {w w' : World} {base : Nat} {v : Value} {xs : List Int} (h : OwnI w base v xs) (hb : Below w.heap.size w w') : OwnI w' base v xs :=
  h.below hb (fun k hk => (h.lt k hk).2)

/-- Bytes that lie at or above a block number, or below it, are apart from a row that lies elsewhere. -/
theorem SrcI.apart {w w' : World} {ao : Option Addr} {n cap : Nat} {xs : List Int} {v : Value} (h : SrcI w ao n cap xs) (hg : w.grownBy w' v.ownBlock)
    (hne : ∀ b off, ao = some ⟨b, off, none⟩ → xs ≠ [] → v.ownBlock ≠ some b) : SrcI w' ao n cap xs :=
  h.grown hg fun b off he hx h' => hne b off he hx h'.symm

theorem ownI_apart {w u : World} {base base' n m c c' : Nat} {a a' : Option Addr} {xs ys : List Int} (h : OwnI w base (.slice a n c) xs) (h' : OwnI u base' (.slice a' m c') ys) (hlt : w.heap.size ≤ base') :
    ∀ b off, a' = some ⟨b, off, none⟩ → ys ≠ [] → (Value.slice a n c).ownBlock ≠ some b := by
  intro b off he _ hk
  subst he
  have h1 := (h.lt b hk).2
  have h2 := (h'.lt b rfl).1
  omega

theorem OwnI.ne_row {w : World} {base : Nat} {v : Value} {xs : List Int} (h : OwnI w base v xs) {b : Nat} (hb : b < base ∨ w.heap.size ≤ b) : some b ≠ v.ownBlock := by
  intro he
  have := h.lt b he.symm
  omega

theorem SrcI.blk {w : World} {ao : Option Addr} {n cap : Nat} {xs : List Int} (h : SrcI w ao n cap xs) : ∀ b off, ao = some ⟨b, off, none⟩ → xs ≠ [] → b < w.heap.size := by
  intro b off he hx
  obtain ⟨b', off', he', hc⟩ := h.hrd hx
  rw [he] at he'
  simp at he'
  obtain ⟨rfl, rfl⟩ := he'
  exact lt_of_cell (hc 0 (by cases xs with | nil => exact absurd rfl hx | cons a r => simp))

theorem SrcI.belowH {w W w' : World} {ao : Option Addr} {n cap : Nat} {xs : List Int} (h : SrcI w ao n cap xs) (hb : Below W.heap.size W w') (e : W.heap = w.heap) : SrcI w' ao n cap xs := (h.heap e).below hb

theorem SrcI.at {w : World} {ao : Option Addr} {n cap : Nat} {xs : List Int} (h : SrcI w ao n cap xs) (k : Nat) (hk : k < n) : ∃ b off, ao = some ⟨b, off, none⟩ ∧ w.cell? ⟨b, off + k, none⟩ = some (.int .i64 (xs.getD k 0)) := by
  have hl := h.hlen
  obtain ⟨b, off, he, hc⟩ := h.hrd (by intro h; subst h; simp at hl; omega)
  exact ⟨b, off, he, hc k (by omega)⟩

theorem Drawn.src {w W : World} (h : Drawn w W) {ao : Option Addr} {n cap : Nat} {xs : List Int} (hs : SrcI w ao n cap xs) : SrcI W ao n cap xs := hs.heap h.heap

theorem Drawn.trans {w W V : World} (h : Drawn w W) (k : Drawn W V) : Drawn w V := ⟨k.os.trans h.os, k.tape.trans h.tape, k.output.trans h.output, k.heap.trans h.heap⟩

theorem Drawn.toBelow {w W : World} (h : Drawn w W) (B : Nat) : Below B w W := h.below (Below.refl _ _)

theorem SrcI.lenI {w : World} {ao : Option Addr} {n cap : Nat} {xs : List Int} (h : SrcI w ao n cap xs) : (n : Int) ≤ 9223372036854775807 ∧ (cap : Int) ≤ 9223372036854775807 := by
  have h1 := h.hcap
  have h2 := h.hmax
  unfold maxLen at h2
  omega

end Go.Proofs.YtklchpdpooikdaaGreatDoor

namespace Go.Proofs.YtklchpdpooikdaaGreatDoor
open Go.RowKit Go.IntWalk

/-- Behind k bytes that make n: the number, how many bytes it has, and what is wrong (0: nothing). -/
def nextGo (n : Int) (k : Nat) : List Int → Int × Nat × Int
  | [] => (0, 0, 10)
  | x :: l => if 2147483647 < 128 * n + x % 128 then (0, 0, 31) else if x < 128 then (128 * n + x % 128, k + 1, 0) else nextGo (128 * n + x % 128) (k + 1) l

def nextS (l : List Int) : Int × Nat × Int := if l.head? = some 128 then (0, 0, 30) else nextGo 0 0 l

theorem nextGo_nil (n : Int) (k : Nat) : nextGo n k [] = (0, 0, 10) := rfl

theorem drop_at (xs : List Int) (p : Nat) (h : p < xs.length) : xs.drop p = xs.getD p 0 :: xs.drop (p + 1) := by
  rw [List.drop_eq_getElem_cons h]
  simp [List.getD, List.getElem?_eq_getElem h]

theorem nextGo_great (xs : List Int) (p : Nat) (n : Int) (k : Nat) (h : p < xs.length) (hg : 2147483647 < 128 * n + xs.getD p 0 % 128) : nextGo n k (xs.drop p) = (0, 0, 31) := by
  rw [drop_at xs p h, nextGo, if_pos hg]

theorem nextGo_last (xs : List Int) (p : Nat) (n : Int) (k : Nat) (h : p < xs.length) (hg : ¬ 2147483647 < 128 * n + xs.getD p 0 % 128) (hx : xs.getD p 0 < 128) : nextGo n k (xs.drop p) = (128 * n + xs.getD p 0 % 128, k + 1, 0) := by
  rw [drop_at xs p h, nextGo, if_neg hg, if_pos hx]

theorem nextGo_more (xs : List Int) (p : Nat) (n : Int) (k : Nat) (h : p < xs.length) (hg : ¬ 2147483647 < 128 * n + xs.getD p 0 % 128) (hx : ¬ xs.getD p 0 < 128) : nextGo n k (xs.drop p) = nextGo (128 * n + xs.getD p 0 % 128) (k + 1) (xs.drop (p + 1)) := by
  rw [drop_at xs p h, nextGo, if_neg hg, if_neg hx]

theorem nextS_pad (xs : List Int) (p : Nat) (h : p < xs.length) (hx : xs.getD p 0 = 128) : nextS (xs.drop p) = (0, 0, 30) := by
  unfold nextS
  rw [drop_at xs p h, List.head?_cons, if_pos (by rw [hx])]

theorem nextS_go (xs : List Int) (p : Nat) (h : p < xs.length) (hx : xs.getD p 0 ≠ 128) : nextS (xs.drop p) = nextGo 0 0 (xs.drop p) := by
  unfold nextS
  rw [drop_at xs p h, List.head?_cons, if_neg (by simpa using hx)]

theorem nextS_end (xs : List Int) (p : Nat) (h : ¬ p < xs.length) : nextS (xs.drop p) = (0, 0, 10) := by
  rw [List.drop_of_length_le (by omega)]
  rfl

/-- What is handed out is a number in range, of at least one byte, within the content. -/
theorem nextGo_in : ∀ (l : List Int) (n : Int) (k : Nat), 0 ≤ n → (nextGo n k l).2.2 = 0 → 0 ≤ (nextGo n k l).1 ∧ (nextGo n k l).1 ≤ 2147483647 ∧ k < (nextGo n k l).2.1 ∧ (nextGo n k l).2.1 ≤ k + l.length
  | [], n, k, _, h => by simp [nextGo] at h
  | x :: l, n, k, h0, h => by
    rw [nextGo] at h ⊢
    split at h
    · simp at h
    · rename_i hg
      rw [if_neg hg]
      split at h
      · rename_i hx
        rw [if_pos hx]
        simp only [List.length_cons]
        omega
      · rename_i hx
        rw [if_neg hx]
        have := nextGo_in l (128 * n + x % 128) (k + 1) (by omega) h
        simp only [List.length_cons]
        omega

theorem nextS_in (l : List Int) (h : (nextS l).2.2 = 0) : 0 ≤ (nextS l).1 ∧ (nextS l).1 ≤ 2147483647 ∧ 0 < (nextS l).2.1 ∧ (nextS l).2.1 ≤ l.length := by
  unfold nextS at h ⊢
  split at h
  · simp at h
  · rename_i hp
    rw [if_neg hp]
    have := nextGo_in l 0 0 (by omega) h
    omega

end Go.Proofs.YtklchpdpooikdaaGreatDoor
