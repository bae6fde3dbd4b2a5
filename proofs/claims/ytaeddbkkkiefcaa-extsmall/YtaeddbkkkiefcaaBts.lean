/-
  Bytes that a slice leads to, as the walks are told of them; rows of bytes that a call has made; appending to them; their text.
-/
import Derived.Test.YtaeddbkkkiefcaaChecked
import Derived.Test.YtaeddbkkkiefcaaBase
import Derived.Laws.BytesArg
import Derived.Laws.Concat
namespace Go.Proofs.Ytaeddbkkkiefcaa
open Go.RowKit

theorem Try.infoB : (Try.prog.info? 5).map (fun i => (i.zero, i.size, i.bytes)) = some (some (.int .u8 0), 1, 1) := by kernel_rfl

/-- The slice at 'ao', of n bytes and so much room, holds the bytes xs. -/
structure Src (w : World) (ao : Option Addr) (n cap : Nat) (xs : List Int) : Prop where
  hlen : xs.length = n
  hcap : n ≤ cap
  hmax : cap ≤ maxLen
  hnil : ao = none → n = 0 ∧ cap = 0
  hrd : xs ≠ [] → ∃ b off, ao = some ⟨b, off, none⟩ ∧ ∀ i, i < xs.length → w.cell? ⟨b, off + i, none⟩ = some (.int .u8 (xs.getD i 0))
  hbyt : ∀ x ∈ xs, 0 ≤ x ∧ x < 256

/-- A row of bytes that the call owns. -/
def OwnB (w : World) (base : Nat) (v : Value) (xs : List Int) : Prop := w.ownsRow base 5 1 v xs.length (xs.map (Value.int .u8))

theorem lt_of_cell {w : World} {a : Addr} {v : Value} (h : w.cell? a = some v) : a.block < w.heap.size := by
  unfold World.cell? at h
  rcases Nat.lt_or_ge a.block w.heap.size with h1 | h1
  · exact h1
  · simp [Array.getElem?_eq_none h1] at h

theorem Src.carry {w w' : World} {ao : Option Addr} {n cap : Nat} {xs : List Int} (h : Src w ao n cap xs)
    (hb : ∀ b off, ao = some ⟨b, off, none⟩ → xs ≠ [] → b < w.heap.size → w'.heap[b]? = w.heap[b]?) : Src w' ao n cap xs := by
  refine ⟨h.hlen, h.hcap, h.hmax, h.hnil, ?_, h.hbyt⟩
  intro hx
  obtain ⟨b, off, he, hc⟩ := h.hrd hx
  refine ⟨b, off, he, fun i hi => ?_⟩
  have := hc i hi
  rw [← this]
  exact World.cell?_of_block (hb b off he hx (lt_of_cell this))

theorem Src.below {w w' : World} {ao : Option Addr} {n cap : Nat} {xs : List Int} (h : Src w ao n cap xs) (hb : Below w.heap.size w w') : Src w' ao n cap xs :=
  h.carry fun b _ _ _ hl => hb.block b hl

theorem Src.alloc {w : World} {ao : Option Addr} {n cap : Nat} {xs : List Int} (h : Src w ao n cap xs) (o : Obj) : Src (w.alloc o) ao n cap xs :=
  h.below ((Below.refl _ _).alloc (Nat.le_refl _) _)

theorem Src.drewN {w : World} {ao : Option Addr} {n cap : Nat} {xs : List Int} (h : Src w ao n cap xs) (q : Nat) : Src (w.drewN q) ao n cap xs :=
  h.carry fun _ _ _ _ _ => rfl

/-- What was owned before, by a base that is the heap's end, lies apart from what came in. -/
theorem Src.grown {w w' : World} {ao : Option Addr} {n cap : Nat} {xs : List Int} {row : Option Nat} (h : Src w ao n cap xs) (hg : w.grownBy w' row)
    (hne : ∀ b off, ao = some ⟨b, off, none⟩ → xs ≠ [] → some b ≠ row) : Src w' ao n cap xs :=
  h.carry fun b off he hx hl => hg.block b hl (hne b off he hx)

theorem grown_trans {w w1 w2 : World} {r : Option Nat} (h : w.grownBy w1 r) (k : w1.grownBy w2 r) : w.grownBy w2 r :=
  ⟨k.os.trans h.os, k.tape.trans h.tape, k.output.trans h.output, Nat.le_trans h.size k.size, fun i hi hr => (k.block i (Nat.lt_of_lt_of_le hi h.size) hr).trans (h.block i hi hr)⟩

theorem grown_of_below {w w1 : World} {r : Option Nat} (h : Below w.heap.size w w1) : w.grownBy w1 r := ⟨h.os, h.tape, h.output, h.size, fun k hk _ => h.block k hk⟩

theorem grown_any {w w1 : World} {r : Option Nat} (h : w.grownBy w1 none) : w.grownBy w1 r := ⟨h.os, h.tape, h.output, h.size, fun k hk _ => h.block k hk (by simp)⟩

theorem below_of_grown {w w1 : World} (h : w.grownBy w1 none) : Below w.heap.size w w1 := ⟨h.os, h.tape, h.output, h.size, fun k hk => h.block k hk (by simp)⟩

theorem OwnB.nil (w : World) (base : Nat) : OwnB w base (.slice none 0 0) [] := World.ownsRow_nil _ _ _ _

theorem OwnB.alloc {w : World} {base : Nat} {v : Value} {xs : List Int} (h : OwnB w base v xs) (o : Obj) : OwnB (w.alloc o) base v xs := World.ownsRow.alloc h o

theorem OwnB.lit {w : World} (base : Nat) (xs : List Int) (C : Array Value) (n : Nat) (hC : C = (xs.map (Value.int .u8)).toArray) (hn : xs.length = n) (hb : base ≤ w.heap.size) (hm : n ≤ maxLen) :
    OwnB (w.alloc (.cells C 5)) base (.slice (some ⟨w.heap.size, 0, none⟩) n n) xs := by
  subst hC
  have := own_lit (w := w) base 5 (xs.map (Value.int .u8)) n (by simpa using hn) hb hm
  unfold OwnB
  rw [hn]
  exact this

theorem OwnB.litAt {w : World} (base g : Nat) (xs : List Int) (C : Array Value) (n : Nat) (hC : C = (xs.map (Value.int .u8)).toArray) (hn : xs.length = n) (hg : g = w.heap.size) (hb : base ≤ w.heap.size) (hm : n ≤ maxLen) :
    OwnB (w.alloc (.cells C 5)) base (.slice (some ⟨g, 0, none⟩) n n) xs := by
  subst hg
  exact OwnB.lit base xs C n hC hn hb hm

theorem OwnB.split {w : World} {base : Nat} {v : Value} {xs : List Int} (h : OwnB w base v xs) :
    (v = .slice none 0 0 ∧ xs = []) ∨ ∃ g cap, v = .slice (some ⟨g, 0, none⟩) xs.length cap ∧ base ≤ g ∧ g < w.heap.size ∧ xs.length ≤ cap ∧ cap ≤ maxLen := by
  rcases own_split h with ⟨h1, _, h3⟩ | h
  · exact .inl ⟨h1, by simpa using h3⟩
  · exact .inr h

theorem OwnB.cell {w : World} {base g n cap : Nat} {xs : List Int} (h : OwnB w base (.slice (some ⟨g, 0, none⟩) n cap) xs) :
    ∀ i, i < xs.length → w.cell? ⟨g, i, none⟩ = some (.int .u8 (xs.getD i 0)) := by
  intro i hi
  have h1 := World.ownsRow.cells h (g := g) rfl i (.int .u8 (xs.getD i 0)) (by simp [List.getElem?_eq_getElem hi, List.getD])
  have h2 : (⟨g, 0, none⟩ : Addr).add i = ⟨g, i, none⟩ := by unfold Addr.add; split <;> simp_all
  rw [h2] at h1
  exact h1

theorem OwnB.frozen {w : World} {base g n cap : Nat} {xs : List Int} (h : OwnB w base (.slice (some ⟨g, 0, none⟩) n cap) xs) (j : Nat) : w.frozen? ⟨g, j, none⟩ = false := by
  obtain ⟨_, h⟩ := h
  rcases h with ⟨h, _⟩ | ⟨g', cap', cur, he, _, hh, _⟩
  · simp at h
  · simp at he
    obtain ⟨rfl, _, _⟩ := he
    simp [World.frozen?, hh]

theorem OwnB.eqlen {w : World} {base g n cap : Nat} {xs : List Int} (h : OwnB w base (.slice (some ⟨g, 0, none⟩) n cap) xs) : n = xs.length := by
  rcases OwnB.split h with ⟨h, _⟩ | ⟨g', cap', he, _⟩
  · simp at h
  · simp at he; exact he.2.1

/-- An owned row, cut at its end, is bytes that can be read. -/
theorem OwnB.src {w : World} {base g n cap : Nat} {xs ys : List Int} (h : OwnB w base (.slice (some ⟨g, 0, none⟩) n cap) xs) (hb : ∀ x ∈ xs, 0 ≤ x ∧ x < 256)
    (m : Nat) (hm : m ≤ n) (hy : ys = xs.take m) (hc : cap ≤ maxLen) : Src w (some ⟨g, 0, none⟩) m cap ys := by
  have hl := h.eqlen
  subst hy
  have hcap : n ≤ cap := by
    rcases OwnB.split h with ⟨h, _⟩ | ⟨g', cap', he, _, _, h2, _⟩
    · simp at h
    · simp at he; omega
  refine ⟨by simp; omega, by omega, hc, by simp, ?_, fun x hx => hb x (List.mem_of_mem_take hx)⟩
  intro _
  refine ⟨g, 0, rfl, fun i hi => ?_⟩
  have hi' : i < xs.length := by simp at hi; omega
  have := h.cell i hi'
  simp at hi
  rw [show 0 + i = i by omega, this]
  simp [List.getD, show i < m by omega]

theorem OwnB.stored {w : World} {base g n cap : Nat} {xs : List Int} (h : OwnB w base (.slice (some ⟨g, 0, none⟩) n cap) xs) (j : Nat) (u : Int) :
    OwnB (w.setCell ⟨g, j, none⟩ (.int .u8 u)) base (.slice (some ⟨g, 0, none⟩) n cap) (xs.set j u) ∧ w.grownBy (w.setCell ⟨g, j, none⟩ (.int .u8 u)) (some g) := by
  have hl := h.eqlen
  subst hl
  have := World.ownsRow.stored h j (.int .u8 u)
  refine ⟨?_, this.2⟩
  unfold OwnB
  rw [List.length_set, List.map_set]
  exact this.1

theorem OwnB.kept {w w' : World} {base : Nat} {v : Value} {xs : List Int} {row : Option Nat} (h : OwnB w base v xs) (hg : w.grownBy w' row) (hne : v.ownBlock = none ∨ v.ownBlock ≠ row) : OwnB w' base v xs :=
  World.ownsRow.kept h hg hne

theorem OwnB.below {w w' : World} {base B : Nat} {v : Value} {xs : List Int} (h : OwnB w base v xs) (hb : Below B w w') (hlt : ∀ k, v.ownBlock = some k → k < B) : OwnB w' base v xs := by
  obtain ⟨hl, h⟩ := h
  refine ⟨hl, ?_⟩
  rcases h with h | ⟨g, cap, cur, rfl, hbg, hh, r⟩
  · exact .inl h
  · exact .inr ⟨g, cap, cur, rfl, hbg, by rw [hb.block g (hlt g rfl)]; exact hh, r⟩

theorem OwnB.heap {w w' : World} {base : Nat} {v : Value} {xs : List Int} (h : OwnB w base v xs) (e : w'.heap = w.heap) : OwnB w' base v xs := by
  obtain ⟨hl, h⟩ := h
  refine ⟨hl, ?_⟩
  rw [e]
  exact h

theorem Src.heap {w w' : World} {ao : Option Addr} {n cap : Nat} {xs : List Int} (h : Src w ao n cap xs) (e : w'.heap = w.heap) : Src w' ao n cap xs :=
  h.carry fun _ _ _ _ _ => by rw [e]

theorem OwnB.setBelow {w : World} {base : Nat} {v : Value} {xs : List Int} (h : OwnB w base v xs) {a : Addr} (ha : a.block < base) (u : Value) : OwnB (w.setCell a u) base v xs :=
  ownsRow_setCell_below h ha u

theorem OwnB.rebase {w : World} {base base' : Nat} {v : Value} {xs : List Int} (h : OwnB w base v xs) (hb : base' ≤ base) : OwnB w base' v xs := by
  obtain ⟨hl, h⟩ := h
  refine ⟨hl, ?_⟩
  rcases h with h | ⟨g, cap, cur, rfl, hbg, r⟩
  · exact .inl h
  · exact .inr ⟨g, cap, cur, rfl, by omega, r⟩

theorem Src.lit {w : World} (xs : List Int) (C : Array Value) (n : Nat) (hC : C = (xs.map (Value.int .u8)).toArray) (hn : xs.length = n) (hb : ∀ x ∈ xs, 0 ≤ x ∧ x < 256) (hm : n ≤ 140737488355328) :
    Src (w.alloc (.cells C 5)) (some ⟨w.heap.size, 0, none⟩) n n xs :=
  (OwnB.lit 0 xs C n hC hn (Nat.zero_le _) (by unfold maxLen; omega)).src hb n (Nat.le_refl _) (by rw [← hn]; simp) (by unfold maxLen; omega)

theorem add_none (b off j : Nat) : (⟨b, off, none⟩ : Addr).add j = ⟨b, off + j, none⟩ := by unfold Addr.add; split <;> simp_all

/-- Where a slice lies that is cut at its head. -/
def cutA (ao : Option Addr) (c l : Nat) : Option Addr := if c = l then ao else ao.map (·.add l)

theorem Try.sizeB : Try.prog.elem 27 = 5 := by kernel_rfl
theorem Try.sliceB : Try.prog.underlying 27 = some (.slice (Try.prog.elem 27)) := by rw [Try.sizeB]; exact Try.underlying27
theorem Try.sizeOfB (w : World) : (sizeOf (Try.prog.elem 27)).run Try.prog w = .ok 1 w := by rw [Try.sizeB]; kernel_rfl

theorem slice_hi (w : World) (ao : Option Addr) (n c : Nat) (h : Int) (m : Nat) (hm : h = (m : Int)) (hc : m ≤ c) :
    (Instr.slice 27 (.slice ao n c) none (some (.int .i64 h)) none).run Try.prog w = .ok (.slice (cutA ao c 0) m c) w := by
  subst hm
  rw [run_slice_h w _ _ _ _ Try.sliceB .i64 (m : Int) (by omega) (by omega), Try.sizeOfB]
  simp [sliced, cutA, Result.andThen]

theorem slice_lo (w : World) (ao : Option Addr) (n c : Nat) (h : Int) (m : Nat) (hm : h = (m : Int)) (hc : m ≤ n) :
    (Instr.slice 27 (.slice ao n c) (some (.int .i64 h)) none none).run Try.prog w = .ok (.slice (cutA ao c m) (n - m) (c - m)) w := by
  subst hm
  rw [run_slice_l w _ _ _ _ Try.sliceB .i64 (m : Int) (by omega) (by omega), Try.sizeOfB]
  simp [sliced, cutA, Result.andThen]

theorem slice_lh (w : World) (ao : Option Addr) (n c : Nat) (i j : Int) (l h : Nat) (hl : i = (l : Int)) (hh : j = (h : Int)) (hc : l ≤ h) (hd : h ≤ c) :
    (Instr.slice 27 (.slice ao n c) (some (.int .i64 i)) (some (.int .i64 j)) none).run Try.prog w = .ok (.slice (cutA ao c l) (h - l) (c - l)) w := by
  subst hl hh
  rw [run_slice_lh w _ _ _ _ Try.sliceB .i64 .i64 (l : Int) (h : Int) (by omega) (by omega) (by omega), Try.sizeOfB]
  simp [sliced, cutA, Result.andThen]

theorem Src.cut {w : World} {ao : Option Addr} {n c : Nat} {xs : List Int} (hs : Src w ao n c xs) (l h : Nat) (hl : l ≤ h) (hh : h ≤ n) :
    Src w (cutA ao c l) (h - l) (c - l) ((xs.take h).drop l) := by
  obtain ⟨h1, h2, h3, h4, h5, h6⟩ := hs
  refine ⟨by simp; omega, by omega, by omega, ?_, ?_, fun x hx => h6 x (List.mem_of_mem_take (List.mem_of_mem_drop hx))⟩
  · intro hc
    have : ao = none := by unfold cutA at hc; split at hc <;> simp_all
    have := h4 this
    omega
  · intro hne
    have hlh : l < h := by
      rcases Nat.lt_or_ge l h with h' | h'
      · exact h'
      · exact absurd (List.drop_eq_nil_of_le (by simp; omega)) hne
    obtain ⟨b, off, rfl, hc⟩ := h5 (by intro h'; simp [h'] at h1; omega)
    refine ⟨b, off + l, ?_, ?_⟩
    · unfold cutA; rw [if_neg (by omega)]; simp [add_none]
    · intro i hi
      simp at hi
      rw [show off + l + i = off + (l + i) by omega, hc (l + i) (by omega)]
      simp [List.getD, show l + i < h by omega]

theorem Src.litAt {w : World} (xs : List Int) (C : Array Value) (n g : Nat) (hC : C = (xs.map (Value.int .u8)).toArray) (hn : xs.length = n) (hb : ∀ x ∈ xs, 0 ≤ x ∧ x < 256) (hm : n ≤ 140737488355328) (hg : g = w.heap.size) :
    Src (w.alloc (.cells C 5)) (some ⟨g, 0, none⟩) n n xs := by
  subst hg
  exact Src.lit xs C n hC hn hb hm

/-- 'append(s, x...)' of bytes: s the call's own, x whatever. -/
theorem wpList_appB {ops : Array Oper} {rest : List Oper} {o : Oper} {a : Act} {Q : Exit → Act → World → Prop} (w : World) (hgd : o.guard = none) (s x : Operand)
    (ho : o.op = .call { callee := .builtin .append, args := #[s, x], argTypes := #[27, 27] })
    (base : Nat) (v : Value) (xs : List Int) (hs : a.eval s = v) (hown : OwnB w base v xs)
    (ao : Option Addr) (m c : Nat) (ys : List Int) (hx : a.eval x = .slice ao m c) (hsrc : Src w ao m c ys)
    (hb : xs.length + m ≤ 140737488355328) (hbase : base ≤ w.heap.size)
    (h : ∀ v' w', OwnB w' base v' (xs ++ ys) → w.grownBy w' v.ownBlock → (v ≠ .slice none 0 0 → v' ≠ .slice none 0 0) → wpList Try.prog ops Q rest (a.put o.dst v') w') :
    wpList Try.prog ops Q (o :: rest) a w := by
  obtain ⟨i0, hi, hz0, hz1, hz2⟩ := info_parts Try.infoB
  obtain ⟨hlen, hcap, hmax, hnil, hrd, hbyt⟩ := hsrc
  cases ao with
  | none =>
    obtain ⟨rfl, rfl⟩ := hnil rfl
    obtain rfl : ys = [] := List.eq_nil_of_length_eq_zero hlen
    refine wpList_append_own_none hgd s x 27 ho base 5 i0 1 Try.underlying27 hi v _ _ hs hown hx ?_
    exact h v w (by simpa using hown) ⟨rfl, rfl, rfl, Nat.le_refl _, fun _ _ _ => rfl⟩ (fun h => h)
  | some ad =>
    refine wpList_append_own w hgd s x 27 ho base 5 i0 (.int .u8 0) 1 1 Try.underlying27 hi hz0 hz1 hz2 rfl (by decide) v _ _ hs hown ad m c (ys.map (Value.int .u8)) hx (by simpa using hlen) ?_ (ints_one _ _) (by unfold maxLen; omega) (by omega) hbase ?_
    · intro j u hj
      have hjl : j < ys.length := by
        rcases Nat.lt_or_ge j ys.length with h | h
        · exact h
        · simp [List.getElem?_eq_none (show (ys.map (Value.int .u8)).length ≤ j by simpa using h)] at hj
      obtain ⟨b, off, he, hc⟩ := hrd (by intro h; simp [h] at hjl)
      cases he
      have h2 : (⟨b, off, none⟩ : Addr).add j = ⟨b, off + j, none⟩ := by unfold Addr.add; split <;> simp_all
      rw [h2, hc j hjl]
      simp [List.getElem?_eq_getElem hjl] at hj
      subst hj
      simp [List.getD, List.getElem?_eq_getElem hjl]
    · intro v' w' h1 h2 h3
      refine h v' w' ?_ h2 ?_
      · unfold OwnB
        have e1 : (xs ++ ys).length = xs.length + m := by simp [hlen]
        rw [e1]
        simpa using h1
      · intro hv hv'
        exact hv (h3.1 hv').1

/-- The same where what comes of it is not nil: its shape is told. -/
theorem wpList_appN {ops : Array Oper} {rest : List Oper} {o : Oper} {a : Act} {Q : Exit → Act → World → Prop} (w : World) (hgd : o.guard = none) (s x : Operand)
    (ho : o.op = .call { callee := .builtin .append, args := #[s, x], argTypes := #[27, 27] })
    (base : Nat) (v : Value) (xs : List Int) (hs : a.eval s = v) (hown : OwnB w base v xs)
    (ao : Option Addr) (m c : Nat) (ys : List Int) (hx : a.eval x = .slice ao m c) (hsrc : Src w ao m c ys)
    (t : Nat) (ht : (xs ++ ys).length = t) (hne : v ≠ .slice none 0 0 ∨ ys ≠ []) (hb : t ≤ 140737488355328) (hbase : base ≤ w.heap.size)
    (h : ∀ g c' w', OwnB w' base (.slice (some ⟨g, 0, none⟩) t c') (xs ++ ys) → base ≤ g → g < w'.heap.size → t ≤ c' → c' ≤ maxLen → w.grownBy w' v.ownBlock →
      wpList Try.prog ops Q rest (a.put o.dst (.slice (some ⟨g, 0, none⟩) t c')) w') :
    wpList Try.prog ops Q (o :: rest) a w := by
  have hl := hsrc.hlen
  have ht' : xs.length + m = t := by rw [← ht, List.length_append, hl]
  refine wpList_appB w hgd s x ho base v xs hs hown ao m c ys hx hsrc (by omega) hbase ?_
  intro v' w' h1 h2 h3
  rcases h1.split with ⟨hv, hx'⟩ | ⟨g, c', hv, hb', hl', hc', hm'⟩
  · rcases hne with hne | hne
    · exact absurd hv (h3 hne)
    · simp at hx'; exact absurd hx'.2 hne
  · rw [ht] at hv hc'
    subst hv
    exact h g c' w' h1 hb' hl' hc' hm' h2

/-- 'string(b)'. -/
theorem Src.text {w : World} {ao : Option Addr} {n cap : Nat} {xs : List Int} (h : Src w ao n cap xs) :
    (convert 27 9 (.slice ao n cap)).run Try.prog w = .ok (.string (strOfNums xs)) w := by
  obtain ⟨hlen, hcap, hmax, hnil, hrd, hbyt⟩ := h
  by_cases hx : xs = []
  · subst hx
    obtain rfl : n = 0 := by simpa using hlen.symm
    cases ao with
    | none => exact run_convert_bytes_nil w 27 5 Try.underlying27 Try.underlying5 _ _ 9 Try.underlying9
    | some ad =>
      rw [run_convert_bytes_string w 27 9 5 _ 0 cap Try.underlying27 Try.underlying5 Try.underlying9]
      rw [run_bytesToString w ad 0 cap [] (by simpa using run_loadCells_list (P := Try.prog) w ad [] (fun j v hj => by simp at hj))]
      rfl
  · obtain ⟨b, off, rfl, hc⟩ := hrd hx
    exact run_convert_bytes_arg w 27 5 Try.underlying27 Try.underlying5 b off n cap xs hlen (fun i hi => hc i (by omega)) 9 Try.underlying9

theorem strOf_append (xs ys : List Int) : strOfNums xs ++ strOfNums ys = strOfNums (xs ++ ys) := by
  apply ByteArray.ext
  simp [strOfNums]

theorem Src.textN {w : World} {ao : Option Addr} {n cap : Nat} {xs : List Int} (h : Src w ao n cap xs) (q : Nat) :
    (convert 27 9 (.slice ao n cap)).run Try.prog (w.drewN q) = .ok (.string (strOfNums xs)) (w.drewN q) := (h.drewN q).text

end Go.Proofs.Ytaeddbkkkiefcaa
