/-
  Digits that a slice leads to, whatever their kind, as the walks are told of them; rows of digits that a call has made; blocks of digits that are known whole; appending. No program.
-/
import Derived.WalkKit
import Derived.WalkLawsBesides
import Derived.Laws.AppendOwnNone
import Derived.Laws.OwnMore
import Derived.Laws.MakeOwn
import Derived.Laws.CopyOwn
import Derived.ArgAppend
import Derived.Maps.AppendAt
import Derived.Test.YtcijjmncilciiaaDoorZCvD0ToBase
import Derived.Test.YtcijjmncilciiaaDoorZNVal
namespace Go.Proofs.YtcijjmncilciiaaDoor
open Go.RowKit Go.IntWalk

variable {κ : IntKind} {B : Int} {T : TypeId}

theorem ltCell {w : World} {a : Addr} {v : Value} (h : w.cell? a = some v) : a.block < w.heap.size := by
  unfold World.cell? at h
  rcases Nat.lt_or_ge a.block w.heap.size with h1 | h1
  · exact h1
  · simp [Array.getElem?_eq_none h1] at h

theorem gTrans {w w1 w2 : World} {r : Option Nat} (h : w.grownBy w1 r) (k : w1.grownBy w2 r) : w.grownBy w2 r :=
  ⟨k.os.trans h.os, k.tape.trans h.tape, k.output.trans h.output, Nat.le_trans h.size k.size, fun i hi hr => (k.block i (Nat.lt_of_lt_of_le hi h.size) hr).trans (h.block i hi hr)⟩

theorem gOfBelow {w w1 : World} {r : Option Nat} (h : Below w.heap.size w w1) : w.grownBy w1 r := ⟨h.os, h.tape, h.output, h.size, fun k hk _ => h.block k hk⟩

theorem gAny {w w1 : World} {r : Option Nat} (h : w.grownBy w1 none) : w.grownBy w1 r := ⟨h.os, h.tape, h.output, h.size, fun k hk _ => h.block k hk (by simp)⟩

theorem belowOfG {w w1 : World} (h : w.grownBy w1 none) : Below w.heap.size w w1 := ⟨h.os, h.tape, h.output, h.size, fun k hk => h.block k hk (by simp)⟩

theorem addNone (b off j : Nat) : (⟨b, off, none⟩ : Addr).add j = ⟨b, off + j, none⟩ := by unfold Addr.add; split <;> simp_all

def cutG (ao : Option Addr) (c l : Nat) : Option Addr := if c = l then ao else ao.map (·.add l)

theorem cutG_zero (ao : Option Addr) (c : Nat) : cutG ao c 0 = ao := by
  unfold cutG
  split
  · rfl
  · cases ao with
    | none => rfl
    | some a => obtain ⟨b, o, s⟩ := a; cases s <;> simp [Addr.add]

/-- A world that has drawn more, and no more. -/
structure Drew (w W : World) : Prop where
  os : W.os = w.os
  tape : W.tape = w.tape
  output : W.output = w.output
  heap : W.heap = w.heap

theorem Drew.refl (w : World) : Drew w w := ⟨rfl, rfl, rfl, rfl⟩
theorem Drew.more {w W : World} (h : Drew w W) (q : Nat) : Drew w (W.drewN q) := ⟨h.os, h.tape, h.output, h.heap⟩
theorem Drew.cell {w W : World} (h : Drew w W) (a : Addr) : W.cell? a = w.cell? a := by unfold World.cell?; rw [h.heap]
theorem Drew.below {w W w0 : World} {B : Nat} (h : Drew w W) (hb : Below B w0 w) : Below B w0 W := ⟨h.os.trans hb.os, h.tape.trans hb.tape, h.output.trans hb.output, by rw [h.heap]; exact hb.size, fun k hk => by rw [h.heap]; exact hb.block k hk⟩

theorem Drew.trans {w W V : World} (h : Drew w W) (k : Drew W V) : Drew w V := ⟨k.os.trans h.os, k.tape.trans h.tape, k.output.trans h.output, k.heap.trans h.heap⟩

theorem Drew.toBelow {w W : World} (h : Drew w W) (B : Nat) : Below B w W := h.below (Below.refl _ _)

/-- The slice at 'ao', of n bytes and so much room, holds the bytes xs. -/
structure SrcG (κ : IntKind) (B : Int) (w : World) (ao : Option Addr) (n cap : Nat) (xs : List Int) : Prop where
  hlen : xs.length = n
  hcap : n ≤ cap
  hmax : cap ≤ maxLen
  hnil : ao = none → n = 0 ∧ cap = 0
  hrd : xs ≠ [] → ∃ b off, ao = some ⟨b, off, none⟩ ∧ ∀ i, i < xs.length → w.cell? ⟨b, off + i, none⟩ = some (.int κ (xs.getD i 0))
  hdg : Dg B xs

/-- A row of bytes that the call owns. -/
def OwnG (κ : IntKind) (T : TypeId) (w : World) (base : Nat) (v : Value) (xs : List Int) : Prop := w.ownsRow base T 1 v xs.length (xs.map (Value.int κ))

theorem SrcG.carry {w w' : World} {ao : Option Addr} {n cap : Nat} {xs : List Int} (h : SrcG κ B w ao n cap xs)
    (hb : ∀ b off, ao = some ⟨b, off, none⟩ → xs ≠ [] → b < w.heap.size → w'.heap[b]? = w.heap[b]?) : SrcG κ B w' ao n cap xs := by
  refine ⟨h.hlen, h.hcap, h.hmax, h.hnil, ?_, h.hdg⟩
  intro hx
  obtain ⟨b, off, he, hc⟩ := h.hrd hx
  refine ⟨b, off, he, fun i hi => ?_⟩
  have := hc i hi
  rw [← this]
  exact World.cell?_of_block (hb b off he hx (ltCell this))

theorem SrcG.below {w w' : World} {ao : Option Addr} {n cap : Nat} {xs : List Int} (h : SrcG κ B w ao n cap xs) (hb : Below w.heap.size w w') : SrcG κ B w' ao n cap xs :=
  h.carry fun b _ _ _ hl => hb.block b hl

theorem SrcG.alloc {w : World} {ao : Option Addr} {n cap : Nat} {xs : List Int} (h : SrcG κ B w ao n cap xs) (o : Obj) : SrcG κ B (w.alloc o) ao n cap xs :=
  h.below ((Below.refl _ _).alloc (Nat.le_refl _) _)

theorem SrcG.drewN {w : World} {ao : Option Addr} {n cap : Nat} {xs : List Int} (h : SrcG κ B w ao n cap xs) (q : Nat) : SrcG κ B (w.drewN q) ao n cap xs :=
  h.carry fun _ _ _ _ _ => rfl

/-- What was owned before, by a base that is the heap's end, lies apart from what came in. -/
theorem SrcG.grown {w w' : World} {ao : Option Addr} {n cap : Nat} {xs : List Int} {row : Option Nat} (h : SrcG κ B w ao n cap xs) (hg : w.grownBy w' row)
    (hne : ∀ b off, ao = some ⟨b, off, none⟩ → xs ≠ [] → some b ≠ row) : SrcG κ B w' ao n cap xs :=
  h.carry fun b off he hx hl => hg.block b hl (hne b off he hx)

theorem OwnG.nil (w : World) (base : Nat) : OwnG κ T w base (.slice none 0 0) [] := World.ownsRow_nil _ _ _ _

theorem OwnG.alloc {w : World} {base : Nat} {v : Value} {xs : List Int} (h : OwnG κ T w base v xs) (o : Obj) : OwnG κ T (w.alloc o) base v xs := World.ownsRow.alloc h o

theorem OwnG.lit {w : World} (base : Nat) (xs : List Int) (C : Array Value) (n : Nat) (hC : C = (xs.map (Value.int κ)).toArray) (hn : xs.length = n) (hb : base ≤ w.heap.size) (hm : n ≤ maxLen) :
    OwnG κ T (w.alloc (.cells C T)) base (.slice (some ⟨w.heap.size, 0, none⟩) n n) xs := by
  subst hC
  have := own_lit (w := w) base T (xs.map (Value.int κ)) n (by simpa using hn) hb hm
  unfold OwnG
  rw [hn]
  exact this

theorem OwnG.litAt {w : World} (base g : Nat) (xs : List Int) (C : Array Value) (n : Nat) (hC : C = (xs.map (Value.int κ)).toArray) (hn : xs.length = n) (hg : g = w.heap.size) (hb : base ≤ w.heap.size) (hm : n ≤ maxLen) :
    OwnG κ T (w.alloc (.cells C T)) base (.slice (some ⟨g, 0, none⟩) n n) xs := by
  subst hg
  exact OwnG.lit base xs C n hC hn hb hm

theorem OwnG.split {w : World} {base : Nat} {v : Value} {xs : List Int} (h : OwnG κ T w base v xs) :
    (v = .slice none 0 0 ∧ xs = []) ∨ ∃ g cap, v = .slice (some ⟨g, 0, none⟩) xs.length cap ∧ base ≤ g ∧ g < w.heap.size ∧ xs.length ≤ cap ∧ cap ≤ maxLen := by
  rcases own_split h with ⟨h1, _, h3⟩ | h
  · exact .inl ⟨h1, by simpa using h3⟩
  · exact .inr h

theorem OwnG.cell {w : World} {base g n cap : Nat} {xs : List Int} (h : OwnG κ T w base (.slice (some ⟨g, 0, none⟩) n cap) xs) :
    ∀ i, i < xs.length → w.cell? ⟨g, i, none⟩ = some (.int κ (xs.getD i 0)) := by
  intro i hi
  have h1 := World.ownsRow.cells h (g := g) rfl i (.int κ (xs.getD i 0)) (by simp [List.getElem?_eq_getElem hi, List.getD])
  have h2 : (⟨g, 0, none⟩ : Addr).add i = ⟨g, i, none⟩ := by unfold Addr.add; split <;> simp_all
  rw [h2] at h1
  exact h1

theorem OwnG.frozen {w : World} {base g n cap : Nat} {xs : List Int} (h : OwnG κ T w base (.slice (some ⟨g, 0, none⟩) n cap) xs) (j : Nat) : w.frozen? ⟨g, j, none⟩ = false := by
  obtain ⟨_, h⟩ := h
  rcases h with ⟨h, _⟩ | ⟨g', cap', cur, he, _, hh, _⟩
  · simp at h
  · simp at he
    obtain ⟨rfl, _, _⟩ := he
    simp [World.frozen?, hh]

theorem OwnG.eqlen {w : World} {base g n cap : Nat} {xs : List Int} (h : OwnG κ T w base (.slice (some ⟨g, 0, none⟩) n cap) xs) : n = xs.length := by
  rcases OwnG.split h with ⟨h, _⟩ | ⟨g', cap', he, _⟩
  · simp at h
  · simp at he; exact he.2.1

/-- An owned row, cut at its end, is bytes that can be read. -/
theorem OwnG.src {w : World} {base g n cap : Nat} {xs ys : List Int} (h : OwnG κ T w base (.slice (some ⟨g, 0, none⟩) n cap) xs) (hb : Dg B xs)
    (m : Nat) (hm : m ≤ n) (hy : ys = xs.take m) (hc : cap ≤ maxLen) : SrcG κ B w (some ⟨g, 0, none⟩) m cap ys := by
  have hl := h.eqlen
  subst hy
  have hcap : n ≤ cap := by
    rcases OwnG.split h with ⟨h, _⟩ | ⟨g', cap', he, _, _, h2, _⟩
    · simp at h
    · simp at he; omega
  refine ⟨by simp; omega, by omega, hc, by simp, ?_, fun x hx => hb x (List.mem_of_mem_take hx)⟩
  intro _
  refine ⟨g, 0, rfl, fun i hi => ?_⟩
  have hi' : i < xs.length := by simp at hi; omega
  have := h.cell i hi'
  simp at hi
  rw [show 0 + i = i by omega, this]
  simp [List.getD, show i < m by omega]

theorem OwnG.stored {w : World} {base g n cap : Nat} {xs : List Int} (h : OwnG κ T w base (.slice (some ⟨g, 0, none⟩) n cap) xs) (j : Nat) (u : Int) :
    OwnG κ T (w.setCell ⟨g, j, none⟩ (.int κ u)) base (.slice (some ⟨g, 0, none⟩) n cap) (xs.set j u) ∧ w.grownBy (w.setCell ⟨g, j, none⟩ (.int κ u)) (some g) := by
  have hl := h.eqlen
  subst hl
  have := World.ownsRow.stored h j (.int κ u)
  refine ⟨?_, this.2⟩
  unfold OwnG
  rw [List.length_set, List.map_set]
  exact this.1

theorem OwnG.kept {w w' : World} {base : Nat} {v : Value} {xs : List Int} {row : Option Nat} (h : OwnG κ T w base v xs) (hg : w.grownBy w' row) (hne : v.ownBlock = none ∨ v.ownBlock ≠ row) : OwnG κ T w' base v xs :=
  World.ownsRow.kept h hg hne

theorem OwnG.below {w w' : World} {base D : Nat} {v : Value} {xs : List Int} (h : OwnG κ T w base v xs) (hb : Below D w w') (hlt : ∀ k, v.ownBlock = some k → k < D) : OwnG κ T w' base v xs := by
  obtain ⟨hl, h⟩ := h
  refine ⟨hl, ?_⟩
  rcases h with h | ⟨g, cap, cur, rfl, hbg, hh, r⟩
  · exact .inl h
  · exact .inr ⟨g, cap, cur, rfl, hbg, by rw [hb.block g (hlt g rfl)]; exact hh, r⟩

theorem OwnG.heap {w w' : World} {base : Nat} {v : Value} {xs : List Int} (h : OwnG κ T w base v xs) (e : w'.heap = w.heap) : OwnG κ T w' base v xs := by
  obtain ⟨hl, h⟩ := h
  refine ⟨hl, ?_⟩
  rw [e]
  exact h

theorem SrcG.heap {w w' : World} {ao : Option Addr} {n cap : Nat} {xs : List Int} (h : SrcG κ B w ao n cap xs) (e : w'.heap = w.heap) : SrcG κ B w' ao n cap xs :=
  h.carry fun _ _ _ _ _ => by rw [e]

theorem OwnG.setBelow {w : World} {base : Nat} {v : Value} {xs : List Int} (h : OwnG κ T w base v xs) {a : Addr} (ha : a.block < base) (u : Value) : OwnG κ T (w.setCell a u) base v xs :=
  ownsRow_setCell_below h ha u

theorem OwnG.rebase {w : World} {base base' : Nat} {v : Value} {xs : List Int} (h : OwnG κ T w base v xs) (hb : base' ≤ base) : OwnG κ T w base' v xs := by
  obtain ⟨hl, h⟩ := h
  refine ⟨hl, ?_⟩
  rcases h with h | ⟨g, cap, cur, rfl, hbg, r⟩
  · exact .inl h
  · exact .inr ⟨g, cap, cur, rfl, by omega, r⟩

theorem SrcG.lit {w : World} (xs : List Int) (C : Array Value) (n : Nat) (hC : C = (xs.map (Value.int κ)).toArray) (hn : xs.length = n) (hb : Dg B xs) (hm : n ≤ 17592186044416) :
    SrcG κ B (w.alloc (.cells C T)) (some ⟨w.heap.size, 0, none⟩) n n xs :=
  (OwnG.lit 0 xs C n hC hn (Nat.zero_le _) (by unfold maxLen; omega)).src hb n (Nat.le_refl _) (by rw [← hn]; simp) (by unfold maxLen; omega)

theorem SrcG.cut {w : World} {ao : Option Addr} {n c : Nat} {xs : List Int} (hs : SrcG κ B w ao n c xs) (l h : Nat) (hl : l ≤ h) (hh : h ≤ n) :
    SrcG κ B w (cutG ao c l) (h - l) (c - l) ((xs.take h).drop l) := by
  obtain ⟨h1, h2, h3, h4, h5, h6⟩ := hs
  refine ⟨by simp; omega, by omega, by omega, ?_, ?_, fun x hx => h6 x (List.mem_of_mem_take (List.mem_of_mem_drop hx))⟩
  · intro hc
    have : ao = none := by unfold cutG at hc; split at hc <;> simp_all
    have := h4 this
    omega
  · intro hne
    have hlh : l < h := by
      rcases Nat.lt_or_ge l h with h' | h'
      · exact h'
      · exact absurd (List.drop_eq_nil_of_le (by simp; omega)) hne
    obtain ⟨b, off, rfl, hc⟩ := h5 (by intro h'; simp [h'] at h1; omega)
    refine ⟨b, off + l, ?_, ?_⟩
    · unfold cutG; rw [if_neg (by omega)]; simp [addNone]
    · intro i hi
      simp at hi
      rw [show off + l + i = off + (l + i) by omega, hc (l + i) (by omega)]
      simp [List.getD, show l + i < h by omega]

theorem SrcG.litAt {w : World} (xs : List Int) (C : Array Value) (n g : Nat) (hC : C = (xs.map (Value.int κ)).toArray) (hn : xs.length = n) (hb : Dg B xs) (hm : n ≤ 17592186044416) (hg : g = w.heap.size) :
    SrcG κ B (w.alloc (.cells C T)) (some ⟨g, 0, none⟩) n n xs := by
  subst hg
  exact SrcG.lit xs C n hC hn hb hm

theorem OwnG.toSrc {w : World} {base m c : Nat} {ao : Option Addr} {xs : List Int} (h : OwnG κ T w base (.slice ao m c) xs) (hb : Dg B xs) : SrcG κ B w ao m c xs := by
  rcases h.split with ⟨he, hx⟩ | ⟨g, cap, he, h1, h2, h3, h4⟩
  · simp at he
    obtain ⟨rfl, rfl, rfl⟩ := he
    subst hx
    exact ⟨rfl, Nat.le_refl _, by decide, fun _ => ⟨rfl, rfl⟩, fun h => absurd rfl h, hb⟩
  · simp at he
    obtain ⟨rfl, rfl, rfl⟩ := he
    exact h.src hb _ (Nat.le_refl _) (by simp) h4

theorem OwnG.lt {w : World} {base : Nat} {v : Value} {xs : List Int} (h : OwnG κ T w base v xs) : ∀ k, v.ownBlock = some k → base ≤ k ∧ k < w.heap.size := World.ownsRow.lt h

theorem OwnG.belowA {w w' : World} {base : Nat} {v : Value} {xs : List Int} (h : OwnG κ T w base v xs) (hb : Below w.heap.size w w') : OwnG κ T w' base v xs :=
  h.below hb (fun k hk => (h.lt k hk).2)

/-- Bytes that lie at or above a block number, or below it, are apart from a row that lies elsewhere. -/
theorem SrcG.apart {w w' : World} {ao : Option Addr} {n cap : Nat} {xs : List Int} {v : Value} (h : SrcG κ B w ao n cap xs) (hg : w.grownBy w' v.ownBlock)
    (hne : ∀ b off, ao = some ⟨b, off, none⟩ → xs ≠ [] → v.ownBlock ≠ some b) : SrcG κ B w' ao n cap xs :=
  h.grown hg fun b off he hx h' => hne b off he hx h'.symm

theorem ownG_apart {w u : World} {base base' n m c c' : Nat} {a a' : Option Addr} {xs ys : List Int} (h : OwnG κ T w base (.slice a n c) xs) (h' : OwnG κ T u base' (.slice a' m c') ys) (hlt : w.heap.size ≤ base') :
    ∀ b off, a' = some ⟨b, off, none⟩ → ys ≠ [] → (Value.slice a n c).ownBlock ≠ some b := by
  intro b off he _ hk
  subst he
  have h1 := (h.lt b hk).2
  have h2 := (h'.lt b rfl).1
  omega

theorem OwnG.ne_row {w : World} {base : Nat} {v : Value} {xs : List Int} (h : OwnG κ T w base v xs) {b : Nat} (hb : b < base ∨ w.heap.size ≤ b) : some b ≠ v.ownBlock := by
  intro he
  have := h.lt b he.symm
  omega

theorem SrcG.blk {w : World} {ao : Option Addr} {n cap : Nat} {xs : List Int} (h : SrcG κ B w ao n cap xs) : ∀ b off, ao = some ⟨b, off, none⟩ → xs ≠ [] → b < w.heap.size := by
  intro b off he hx
  obtain ⟨b', off', he', hc⟩ := h.hrd hx
  rw [he] at he'
  simp at he'
  obtain ⟨rfl, rfl⟩ := he'
  exact ltCell (hc 0 (by cases xs with | nil => exact absurd rfl hx | cons a r => simp))

theorem SrcG.belowH {w W w' : World} {ao : Option Addr} {n cap : Nat} {xs : List Int} (h : SrcG κ B w ao n cap xs) (hb : Below W.heap.size W w') (e : W.heap = w.heap) : SrcG κ B w' ao n cap xs := (h.heap e).below hb

theorem SrcG.at {w : World} {ao : Option Addr} {n cap : Nat} {xs : List Int} (h : SrcG κ B w ao n cap xs) (k : Nat) (hk : k < n) : ∃ b off, ao = some ⟨b, off, none⟩ ∧ w.cell? ⟨b, off + k, none⟩ = some (.int κ (xs.getD k 0)) := by
  have hl := h.hlen
  obtain ⟨b, off, he, hc⟩ := h.hrd (by intro h; subst h; simp at hl; omega)
  exact ⟨b, off, he, hc k (by omega)⟩

theorem SrcG.lenI {w : World} {ao : Option Addr} {n cap : Nat} {xs : List Int} (h : SrcG κ B w ao n cap xs) : (n : Int) ≤ 9223372036854775807 ∧ (cap : Int) ≤ 9223372036854775807 := by
  have h1 := h.hcap
  have h2 := h.hmax
  unfold maxLen at h2
  omega


end Go.Proofs.YtcijjmncilciiaaDoor
