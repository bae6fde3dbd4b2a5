/-
  Blocks of digits that are known whole; making, cutting, appending. No program.
  Words of 32 bits: turned right, as the program and as the document turn them.
  Blocks of cells that are known whole. No program.
-/
import Derived.Test.YtcijjmncilciiaaDoorZGRow
import Derived.Test.YtcijjmncilciiaaDoorChecked
import Derived.WalkKit
import Derived.WalkMore
import Derived.BigQuiet
import Derived.Deep.QuietTactic
import Derived.Laws.BitsAllLaws
import Derived.Deep.MidRow
namespace Go.Proofs.YtcijjmncilciiaaDoor
open Go.RowKit Go.IntWalk

variable {κ : IntKind} {B : Int} {T : TypeId} {P : Program}

/-- A block of digits, known whole. -/
def RowG (κ : IntKind) (B : Int) (T : TypeId) (w : World) (g : Nat) (xs : List Int) : Prop := w.heap[g]? = some (.cells (xs.map (Value.int κ)).toArray T (0, 0)) ∧ Dg B xs

theorem RowG.cell {w : World} {g : Nat} {xs : List Int} (h : RowG κ B T w g xs) (i : Nat) (hi : i < xs.length) : w.cell? ⟨g, i, none⟩ = some (.int κ (xs.getD i 0)) := by
  rw [cell_of_row w g i _ T (0, 0) h.1]
  simp [List.getD, hi]

theorem RowG.frozen {w : World} {g : Nat} {xs : List Int} (h : RowG κ B T w g xs) (i : Nat) : w.frozen? ⟨g, i, none⟩ = false := frozen_of_row w g i _ T h.1

theorem RowG.lt {w : World} {g : Nat} {xs : List Int} (h : RowG κ B T w g xs) : g < w.heap.size := by
  obtain ⟨h1, _⟩ := Array.getElem?_eq_some_iff.1 h.1
  exact h1

theorem RowG.set {w : World} {g : Nat} {xs : List Int} (h : RowG κ B T w g xs) (i : Nat) (u : Int) (hu : 0 ≤ u ∧ u < B) : RowG κ B T (w.setCell ⟨g, i, none⟩ (.int κ u)) g (xs.set i u) := by
  refine ⟨?_, h.2.set i u hu⟩
  rw [heap_setCell_same w g i _ T (.int κ u) h.1]
  simp [List.map_set]

theorem gSet (w : World) (g i : Nat) (v : Value) : w.grownBy (w.setCell ⟨g, i, none⟩ v) (some g) :=
  ⟨rfl, rfl, rfl, by simp, fun k _ hk => heap_setCell_other w ⟨g, i, none⟩ k v (fun e => hk (by simp [e]))⟩

theorem RowG.kept {w w' : World} {g : Nat} {xs : List Int} {row : Option Nat} (h : RowG κ B T w g xs) (hg : w.grownBy w' row) (hne : some g ≠ row) : RowG κ B T w' g xs :=
  ⟨by rw [hg.block g h.lt hne]; exact h.1, h.2⟩

theorem RowG.heap {w w' : World} {g : Nat} {xs : List Int} (h : RowG κ B T w g xs) (e : w'.heap = w.heap) : RowG κ B T w' g xs := ⟨by rw [e]; exact h.1, h.2⟩

theorem RowG.below {w w' : World} {g : Nat} {xs : List Int} (h : RowG κ B T w g xs) (hb : Below w.heap.size w w') : RowG κ B T w' g xs := ⟨by rw [hb.block g h.lt]; exact h.1, h.2⟩

theorem RowG.alloc {w : World} {g : Nat} {xs : List Int} (h : RowG κ B T w g xs) (o : Obj) : RowG κ B T (w.alloc o) g xs := h.below ((Below.refl _ _).alloc (Nat.le_refl _) _)

theorem RowG.src {w : World} {g : Nat} {xs : List Int} (h : RowG κ B T w g xs) (off n c : Nat) (hn : off + n ≤ xs.length) (hc : n ≤ c) (hm : c ≤ maxLen) : SrcG κ B w (some ⟨g, off, none⟩) n c ((xs.drop off).take n) := by
  refine ⟨by simp; omega, hc, hm, by simp, ?_, (h.2.drop off).take n⟩
  intro _
  refine ⟨g, off, rfl, fun i hi => ?_⟩
  simp at hi
  rw [h.cell (off + i) (by omega)]
  simp [List.getD, show i < n by omega]

theorem RowG.srcAll {w : World} {g : Nat} {xs : List Int} (h : RowG κ B T w g xs) (hm : xs.length ≤ maxLen) : SrcG κ B w (some ⟨g, 0, none⟩) xs.length xs.length xs := by
  have := h.src 0 xs.length xs.length (by omega) (Nat.le_refl _) hm
  simpa using this

theorem RowG.made {w : World} (n g : Nat) (C : Array Value) (hB : 0 < B) (hC : C = madeCells #[.int κ 0] n) (hg : g = w.heap.size) : RowG κ B T (w.alloc (.cells C T)) g (List.replicate n 0) := by
  subst hg hC
  refine ⟨?_, ?_⟩
  · rw [(MapKept.heap_alloc w _).1]
    have : madeCells #[Value.int κ 0] n = (List.replicate n (Value.int κ 0)).toArray := by
      rw [← toList_madeCells_one]
    rw [this]
    simp
  · intro x hx
    simp [List.mem_replicate] at hx
    omega

theorem val_rep (b : Int) : ∀ n, val b (List.replicate n 0) = 0
  | 0 => rfl
  | n + 1 => by rw [List.replicate_succ, val, val_rep b n]; simp

/-- A slice of new memory: its digits, and the block behind it. -/
def GotG (κ : IntKind) (B : Int) (T : TypeId) (w : World) (base : Nat) (v : Value) (zs : List Int) : Prop :=
  ∃ g rest, v = .slice (some ⟨g, 0, none⟩) zs.length zs.length ∧ base ≤ g ∧ RowG κ B T w g (zs ++ rest) ∧ zs.length ≤ 17592186044416

theorem GotG.dg {w : World} {base : Nat} {v : Value} {zs : List Int} (h : GotG κ B T w base v zs) : Dg B zs := by
  obtain ⟨g, rest, _, _, h, _⟩ := h
  exact fun x hx => h.2 x (by simp [hx])

theorem GotG.src {w : World} {base n c : Nat} {ao : Option Addr} {zs : List Int} (h : GotG κ B T w base (.slice ao n c) zs) : SrcG κ B w ao n c zs := by
  obtain ⟨g, rest, he, _, h, hl⟩ := h
  simp at he
  obtain ⟨rfl, rfl, rfl⟩ := he
  have := h.src 0 zs.length zs.length (by simp) (Nat.le_refl _) (by unfold maxLen; omega)
  simpa using this

theorem GotG.below {w w' : World} {base : Nat} {v : Value} {zs : List Int} (h : GotG κ B T w base v zs) (hb : Below w.heap.size w w') : GotG κ B T w' base v zs := by
  obtain ⟨g, rest, he, h1, h2, h3⟩ := h
  exact ⟨g, rest, he, h1, h2.below hb, h3⟩

theorem GotG.heap {w w' : World} {base : Nat} {v : Value} {zs : List Int} (h : GotG κ B T w base v zs) (e : w'.heap = w.heap) : GotG κ B T w' base v zs := by
  obtain ⟨g, rest, he, h1, h2, h3⟩ := h
  exact ⟨g, rest, he, h1, h2.heap e, h3⟩

theorem GotG.rebase {w : World} {base base' : Nat} {v : Value} {zs : List Int} (h : GotG κ B T w base v zs) (hb : base' ≤ base) : GotG κ B T w base' v zs := by
  obtain ⟨g, rest, he, h1, h2, h3⟩ := h
  exact ⟨g, rest, he, by omega, h2, h3⟩

theorem GotG.shape {w : World} {base : Nat} {v : Value} {zs : List Int} (h : GotG κ B T w base v zs) : ∃ g, v = .slice (some ⟨g, 0, none⟩) zs.length zs.length ∧ base ≤ g ∧ g < w.heap.size := by
  obtain ⟨g, rest, he, h1, h2, h3⟩ := h
  exact ⟨g, he, h1, h2.lt⟩

/-- 'append(s, x...)' of digits: s the call's own, x whatever; what comes of it has its shape told where it is not nil. -/
theorem appG {ops : Array Oper} {rest : List Oper} {o : Oper} {a : Act} {Q : Exit → Act → World → Prop} (sT : TypeId) (by8 : Nat) (hu : P.underlying sT = some (.slice T)) (hinfo : (P.info? T).map (fun i => (i.zero, i.size, i.bytes)) = some (some (.int κ 0), 1, by8)) (w : World) (hgd : o.guard = none) (s x : Operand)
    (ho : o.op = .call { callee := .builtin .append, args := #[s, x], argTypes := #[sT, sT] })
    (base : Nat) (v : Value) (xs : List Int) (hs : a.eval s = v) (hown : OwnG κ T w base v xs)
    (ao : Option Addr) (m c : Nat) (ys : List Int) (hx : a.eval x = .slice ao m c) (hsrc : SrcG κ B w ao m c ys)
    (t : Nat) (ht : (xs ++ ys).length = t) (hne : v ≠ .slice none 0 0 ∨ ys ≠ []) (hb : t * by8 ≤ 140737488355328) (hb2 : t ≤ 140737488355328) (hbase : base ≤ w.heap.size)
    (h : ∀ g c' w', OwnG κ T w' base (.slice (some ⟨g, 0, none⟩) t c') (xs ++ ys) → base ≤ g → g < w'.heap.size → t ≤ c' → c' ≤ maxLen → w.grownBy w' v.ownBlock → (v.ownBlock = some g ∨ g = w.heap.size) →
      wpList P ops Q rest (a.put o.dst (.slice (some ⟨g, 0, none⟩) t c')) w') :
    wpList P ops Q (o :: rest) a w := by
  have hl0 := hsrc.hlen
  have ht' : xs.length + m = t := by rw [← ht, List.length_append, hl0]
  have main : ∀ v' w', OwnG κ T w' base v' (xs ++ ys) → w.grownBy w' v.ownBlock → (v ≠ .slice none 0 0 → v' ≠ .slice none 0 0) → (v'.ownBlock = v.ownBlock ∨ v'.ownBlock = some w.heap.size) → wpList P ops Q rest (a.put o.dst v') w' := by
    intro v' w' h1 h2 h3 h4
    rcases h1.split with ⟨hv, hx'⟩ | ⟨g, c', hv, hb', hl', hc', hm'⟩
    · rcases hne with hne | hne
      · exact absurd hv (h3 hne)
      · simp at hx'; exact absurd hx'.2 hne
    · rw [ht] at hv hc'
      subst hv
      refine h g c' w' h1 hb' hl' hc' hm' h2 ?_
      rcases h4 with h4 | h4
      · exact .inl h4.symm
      · exact .inr (by simpa [Value.ownBlock] using h4)
  obtain ⟨i0, hi, hz0, hz1, hz2⟩ := info_parts hinfo
  obtain ⟨hlen, hcap, hmax, hnil, hrd, hdg⟩ := hsrc
  cases ao with
  | none =>
    obtain ⟨rfl, rfl⟩ := hnil rfl
    obtain rfl : ys = [] := List.eq_nil_of_length_eq_zero hlen
    refine wpList_append_own_none hgd s x sT ho base T i0 1 hu hi v _ _ hs hown hx ?_
    exact main v w (by simpa using hown) ⟨rfl, rfl, rfl, Nat.le_refl _, fun _ _ _ => rfl⟩ (fun h => h) (.inl rfl)
  | some ad =>
    refine wpList_append_own_at (w := w) hgd s x sT ho base T i0 (.int κ 0) 1 by8 hu hi hz0 hz1 hz2 rfl (by decide) v _ _ hs hown ad m c (ys.map (Value.int κ)) hx (by simpa using hlen) ?_ (ints_one _ _) (by unfold maxLen; omega) (by rw [ht']; exact hb) hbase ?_
    · intro j u hj
      have hjl : j < ys.length := by
        rcases Nat.lt_or_ge j ys.length with h | h
        · exact h
        · simp [List.getElem?_eq_none (show (ys.map (Value.int κ)).length ≤ j by simpa using h)] at hj
      obtain ⟨b, off, he, hc⟩ := hrd (by intro h; simp [h] at hjl)
      cases he
      rw [addNone, hc j hjl]
      simp [List.getElem?_eq_getElem hjl] at hj
      subst hj
      simp [List.getD, List.getElem?_eq_getElem hjl]
    · intro v' w' h1 h2 h3 h4
      refine main v' w' ?_ h2 ?_ h4
      · unfold OwnG
        have e1 : (xs ++ ys).length = xs.length + m := by simp [hlen]
        rw [e1]
        simpa using h1
      · intro hv hv'
        exact hv (h3.1 hv').1

/-- 'append' behind a slice without room: some new row comes of it. -/
theorem appFull {ops : Array Oper} {rest : List Oper} {o : Oper} {a : Act} {Q : Exit → Act → World → Prop} (sT : TypeId) (by8 : Nat) (hu : P.underlying sT = some (.slice T)) (hinfo : (P.info? T).map (fun i => (i.zero, i.size, i.bytes)) = some (some (.int κ 0), 1, by8)) (w : World) (hgd : o.guard = none) (s x : Operand)
    (ho : o.op = .call { callee := .builtin .append, args := #[s, x], argTypes := #[sT, sT] })
    (ao : Option Addr) (n : Nat) (xs : List Int) (hs : a.eval s = .slice ao n n) (hown : SrcG κ B w ao n n xs)
    (ad : Addr) (m c : Nat) (ys : List Int) (hx : a.eval x = .slice (some ad) m c) (hsrc : SrcG κ B w (some ad) m c ys)
    (hm : 0 < m) (hb : (n + m) * by8 ≤ 140737488355328) (hb2 : n + m ≤ 140737488355328)
    (h : ∀ v' w', w.grownBy w' none → wpList P ops Q rest (a.put o.dst v') w') :
    wpList P ops Q (o :: rest) a w := by
  obtain ⟨i0, hi, hz0, hz1, hz2⟩ := info_parts hinfo
  obtain ⟨hlen, hcap, hmax, hnil, hrd, hdg⟩ := hsrc
  obtain ⟨klen, kcap, kmax, knil, krd, kdg⟩ := hown
  refine wpList_append_grows w hgd s x sT ho T i0 (.int κ 0) 1 by8 hu hi hz0 hz1 hz2 rfl (by decide) ao n n (xs.map (Value.int κ)) hs knil (by simpa using klen) ?_ ad m c (ys.map (Value.int κ)) hx (by simpa using hlen) ?_ (ints_one _ _) (by omega) (by unfold maxLen; omega) hb ?_
  · intro b0 hb0 j u hj
    have hjl : j < xs.length := by
      rcases Nat.lt_or_ge j xs.length with h | h
      · exact h
      · simp [List.getElem?_eq_none (show (xs.map (Value.int κ)).length ≤ j by simpa using h)] at hj
    obtain ⟨b, off, he, hc⟩ := krd (by intro h; simp [h] at hjl)
    rw [he] at hb0
    simp at hb0
    subst hb0
    rw [addNone, hc j hjl]
    simp [List.getElem?_eq_getElem hjl] at hj
    subst hj
    simp [List.getD, List.getElem?_eq_getElem hjl]
  · intro j u hj
    have hjl : j < ys.length := by
      rcases Nat.lt_or_ge j ys.length with h | h
      · exact h
      · simp [List.getElem?_eq_none (show (ys.map (Value.int κ)).length ≤ j by simpa using h)] at hj
    obtain ⟨b, off, he, hc⟩ := hrd (by intro h; simp [h] at hjl)
    cases he
    rw [addNone, hc j hjl]
    simp [List.getElem?_eq_getElem hjl] at hj
    subst hj
    simp [List.getD, List.getElem?_eq_getElem hjl]
  · intro v' w' _ hg
    exact h v' w' hg

/-- A slice cut at its end, with no room behind. -/
theorem sliceG_hm (sT : TypeId) (hT : P.elem sT = T) (hu : P.underlying sT = some (.slice T)) (hsz : ∀ w : World, (sizeOf T).run P w = .ok 1 w) (w : World) (ao : Option Addr) (n c : Nat) (h : Int) (m : Nat) (hm : h = (m : Int)) (hc : m ≤ c) :
    (Instr.slice sT (.slice ao n c) none (some (.int .i64 h)) (some (.int .i64 h))).run P w = .ok (.slice ao m m) w := by
  subst hm
  have hu' : P.underlying sT = some (.slice (P.elem sT)) := by rw [hT]; exact hu
  rw [run_slice_hm w _ _ _ _ hu' .i64 .i64 (m : Int) (m : Int) (by omega) (by omega) (by omega), hT, hsz]
  simp only [Result.andThen_ok, sliced, Int.toNat_natCast, Nat.sub_zero, Nat.zero_mul]
  have : (if m = 0 then ao else ao.map (·.add 0)) = ao := by
    split
    · rfl
    · cases ao with
      | none => rfl
      | some a => obtain ⟨b, o, s⟩ := a; cases s <;> simp [Addr.add]
  rw [this]

end Go.Proofs.YtcijjmncilciiaaDoor

namespace Go.Proofs.YtcijjmncilciiaaDoor
open Go.RowKit Go.IntWalk

/-- A word turned right by n bits. -/
def ror (x : Int) (n : Nat) : Int := bits .or .u32 (x / 2 ^ n) (x * 2 ^ (32 - n) % 4294967296)

theorem bits_bd (o : BinOp) (a b : Int) : 0 ≤ bits o .u32 a b ∧ bits o .u32 a b < 4294967296 := by
  unfold bits
  split <;> (rw [IntKind.wrap_u32']; omega)

theorem or_comm32 (a b : Int) : bits .or .u32 a b = bits .or .u32 b a := by
  show IntKind.u32.wrap ((BitVec.ofInt 32 a ||| BitVec.ofInt 32 b).toNat : Int) = IntKind.u32.wrap ((BitVec.ofInt 32 b ||| BitVec.ofInt 32 a).toNat : Int)
  rw [BitVec.or_comm]

theorem ret_u32 {a b : Int} (h : a = b) : Ending.returned (.int .u32 a) = .returned (.int .u32 b) := by rw [h]

end Go.Proofs.YtcijjmncilciiaaDoor

namespace Go.Proofs.YtcijjmncilciiaaDoor
open Go.RowKit Go.IntWalk

/-- Block g holds just these cells. -/
def Blk (T : TypeId) (w : World) (g : Nat) (L : List Value) : Prop := w.heap[g]? = some (.cells L.toArray T (0, 0))

variable {T : TypeId}

theorem Blk.lt {w : World} {g : Nat} {L : List Value} (h : Blk T w g L) : g < w.heap.size := by
  obtain ⟨h1, _⟩ := Array.getElem?_eq_some_iff.1 h
  exact h1

theorem Blk.cell {w : World} {g : Nat} {L : List Value} (h : Blk T w g L) (i : Nat) : w.cell? ⟨g, i, none⟩ = L[i]? := by
  rw [cell_of_row w g i _ T (0, 0) h]
  simp

theorem Blk.frozen {w : World} {g : Nat} {L : List Value} (h : Blk T w g L) (i : Nat) : w.frozen? ⟨g, i, none⟩ = false := frozen_of_row w g i _ T h

theorem Blk.set {w : World} {g : Nat} {L : List Value} (h : Blk T w g L) (i : Nat) (u : Value) : Blk T (w.setCell ⟨g, i, none⟩ u) g (L.set i u) := by
  unfold Blk
  rw [heap_setCell_same w g i _ T u h]
  simp

theorem set_parts (L : List Value) (o : Nat) (v : Value) (h : o < L.length) : L.set o v = L.take o ++ v :: L.drop (o + 1) := by
  rw [List.set_eq_take_append_cons_drop, if_pos h]

theorem Blk.sets {g : Nat} : ∀ (vs : List Value) (o : Nat) (L : List Value) (w : World), Blk T w g L → o + vs.length ≤ L.length → Blk T (w.setCells g o vs) g (L.take o ++ vs ++ L.drop (o + vs.length))
  | [], o, L, w, h, _ => by simpa [World.setCells] using h
  | v :: r, o, L, w, h, hl => by
    simp at hl
    have := Blk.sets r (o + 1) (L.set o v) (w.setCell ⟨g, o, none⟩ v) (h.set o v) (by simp; omega)
    rw [World.setCells]
    have e : (L.set o v).take (o + 1) ++ r ++ (L.set o v).drop (o + 1 + r.length) = L.take o ++ (v :: r) ++ L.drop (o + (v :: r).length) := by
      rw [List.drop_set_of_lt (by omega), List.take_set, List.length_cons, show o + 1 + r.length = o + (r.length + 1) by omega]
      rw [set_parts _ _ _ (by simp; omega), List.take_take, Nat.min_eq_left (by omega), List.drop_eq_nil_of_le (by simp; omega)]
      simp
    rw [e] at this
    exact this

/-- Cells in the midst of a block, stored over. -/
theorem Blk.mid {g : Nat} (A X C vs : List Value) (o : Nat) (w : World) (h : Blk T w g (A ++ X ++ C)) (ho : A.length = o) (hl : X.length = vs.length) : Blk T (w.setCells g o vs) g (A ++ vs ++ C) := by
  subst ho
  have := h.sets vs A.length _ w (by simp; omega)
  simpa [List.take_append, List.drop_append, ← hl, List.append_assoc, List.drop_eq_nil_of_le (show A.length ≤ A.length + X.length by omega)] using this

theorem Blk.kept {w w' : World} {g : Nat} {L : List Value} {row : Option Nat} (h : Blk T w g L) (hg : w.grownBy w' row) (hne : some g ≠ row) : Blk T w' g L := by
  unfold Blk; rw [hg.block g h.lt hne]; exact h

theorem Blk.heap {w w' : World} {g : Nat} {L : List Value} (h : Blk T w g L) (e : w'.heap = w.heap) : Blk T w' g L := by unfold Blk; rw [e]; exact h

theorem Blk.below {w w' : World} {g : Nat} {L : List Value} (h : Blk T w g L) (hb : Below w.heap.size w w') : Blk T w' g L := by unfold Blk; rw [hb.block g h.lt]; exact h

theorem Blk.alloc {w : World} {g : Nat} {L : List Value} (h : Blk T w g L) (o : Obj) : Blk T (w.alloc o) g L := h.below ((Below.refl _ _).alloc (Nat.le_refl _) _)

theorem Blk.new (w : World) (L : List Value) (C : Array Value) (g : Nat) (hC : C = L.toArray) (hg : g = w.heap.size) : Blk T (w.alloc (.cells C T)) g L := by
  subst hC hg
  exact (MapKept.heap_alloc w _).1

theorem Blk.range {w : World} {g : Nat} {A X C : List Value} (h : Blk T w g (A ++ X ++ C)) (o : Nat) (ho : A.length = o) : w.rangeAt g o X := by
  intro j v hv
  subst ho
  have hj := (List.getElem?_eq_some_iff.1 hv).1
  rw [h.cell]
  have e : (A ++ X ++ C)[A.length + j]? = X[j]? := by simp [List.getElem?_append, hj]
  rw [e, hv]

theorem Blk.there {w : World} {g : Nat} {L : List Value} (h : Blk T w g L) (o n : Nat) (hn : o + n ≤ L.length) : w.there g o n := by
  intro j hj
  exact ⟨by rw [h.cell, List.getElem?_eq_getElem (show o + j < L.length by omega)]; rfl, h.frozen _⟩

theorem gSets (g : Nat) : ∀ (vs : List Value) (o : Nat) (w : World), w.grownBy (w.setCells g o vs) (some g) ∧ (w.setCells g o vs).heap.size = w.heap.size
  | [], _, w => ⟨World.grownBy.refl _ _, rfl⟩
  | v :: r, o, w => by
    have h := gSets g r (o + 1) (w.setCell ⟨g, o, none⟩ v)
    rw [World.setCells]
    exact ⟨gTrans (gSet w g o v) h.1, h.2.trans (by simp)⟩

theorem RowG.blk {κ : IntKind} {B : Int} {w : World} {g : Nat} {xs : List Int} (h : RowG κ B T w g xs) : Blk T w g (xs.map (Value.int κ)) := h.1

end Go.Proofs.YtcijjmncilciiaaDoor
