/-
  A Hash in memory, and the text that it stands for; pieces that are to be taken. Plain facts.
-/
import Derived.Test.YtgajejomibnghaaDoorSaPad
namespace Go.Proofs.YtgajejomibnghaaDoor
open Go.RowKit Go.IntWalk

/-- A Hash's cells. -/
def hV (ws part : List Int) (n : Nat) : List Value := .bool true :: (ws.map (Value.int .u32) ++ part.map (Value.int .u8) ++ [.int .i64 n])

/-- In block g, behind the cells A, lies a Hash that has taken the text xs. -/
def Hs (T : TypeId) (w : World) (g : Nat) (A C : List Value) (xs : List Int) : Prop :=
  ∃ part, Blk T w g (A ++ hV (st xs) part xs.length ++ C) ∧ part.length = 64 ∧ Dg 256 part ∧ part.take (xs.length % 64) = tail xs

theorem hV_part (A C : List Value) (ws p1 p2 p3 : List Int) (n : Nat) : A ++ hV ws (p1 ++ p2 ++ p3) n ++ C = (A ++ .bool true :: (ws.map (Value.int .u32) ++ p1.map (Value.int .u8))) ++ p2.map (Value.int .u8) ++ (p3.map (Value.int .u8) ++ [.int .i64 n] ++ C) := by
  simp [hV]

theorem hV_words (A C : List Value) (ws part : List Int) (n : Nat) : A ++ hV ws part n ++ C = (A ++ [.bool true]) ++ ws.map (Value.int .u32) ++ (part.map (Value.int .u8) ++ [.int .i64 n] ++ C) := by
  simp [hV]

theorem hV_count (A C : List Value) (ws part : List Int) (n : Nat) : A ++ hV ws part n ++ C = (A ++ .bool true :: (ws.map (Value.int .u32) ++ part.map (Value.int .u8))) ++ [.int .i64 n] ++ C := by
  simp [hV]

theorem hV_len (ws part : List Int) (n : Nat) (h1 : ws.length = 8) (h2 : part.length = 64) : (hV ws part n).length = 74 := by simp [hV, h1, h2]

theorem st_len (xs : List Int) : (st xs).length = 8 := stN_len _ _
theorem st_dg (xs : List Int) : Dg 4294967296 (st xs) := stN_dg _ _

/-- The part behind which m bytes more were laid. -/
theorem part_split (part : List Int) (c m : Nat) : part.take c ++ (part.drop c).take m ++ part.drop (c + m) = part := by
  rw [List.append_assoc, ← List.drop_drop, List.take_append_drop, List.take_append_drop]

/-- Bytes taken that end no block. -/
theorem hs_more {xs part d : List Int} (hp : part.length = 64) (ht : part.take (xs.length % 64) = tail xs) (hd : d.length ≤ 64 - xs.length % 64) (hm : (xs.length + d.length) % 64 ≠ 0) :
    st (xs ++ d) = st xs ∧ (part.take (xs.length % 64) ++ d ++ part.drop (xs.length % 64 + d.length)).take ((xs ++ d).length % 64) = tail (xs ++ d) := by
  have e : (xs.length + d.length) / 64 = xs.length / 64 := by omega
  refine ⟨st_same _ _ e, ?_⟩
  rw [tail_same _ _ e, ← ht, List.length_append, List.take_append_of_le_length (by simp [hp]; omega), List.take_of_length_le (by simp [hp]; omega)]

/-- Bytes taken that end a block. -/
theorem hs_whole {xs part d : List Int} (hp : part.length = 64) (ht : part.take (xs.length % 64) = tail xs) (hd : d.length ≤ 64 - xs.length % 64) (h1 : d ≠ []) (hm : (xs.length + d.length) % 64 = 0) :
    st (xs ++ d) = mix (st xs) (part.take (xs.length % 64) ++ d ++ part.drop (xs.length % 64 + d.length)) ∧ tail (xs ++ d) = [] := by
  have hy : 0 < d.length := by cases d with | nil => exact absurd rfl h1 | cons a r => simp
  refine ⟨?_, tail_zero _ (by rw [List.length_append]; exact hm)⟩
  have e : part.drop (xs.length % 64 + d.length) = [] := List.drop_eq_nil_of_le (by omega)
  rw [st_next _ _ hm h1 hd, e, List.append_nil, ht]
  rfl

/-- Pieces of bytes, none of them in block g. -/
structure Pcs (w : World) (g : Nat) (po : Option Addr) (pn : Nat) (ls : List (List Int)) : Prop where
  len : ls.length = pn
  row : 0 < pn → ∃ b off, po = some ⟨b, off, none⟩ ∧ b ≠ g ∧ ∀ i, i < pn → ∃ a n c, w.cell? ⟨b, off + i, none⟩ = some (.slice a n c) ∧ SrcG .u8 256 w a n c (ls.getD i []) ∧ ∀ b' o', a = some ⟨b', o', none⟩ → ls.getD i [] ≠ [] → b' ≠ g

theorem Pcs.kept {w w' : World} {g pn : Nat} {po : Option Addr} {ls : List (List Int)} (h : Pcs w g po pn ls) (hg : w.grownBy w' (some g)) : Pcs w' g po pn ls := by
  refine ⟨h.len, fun hp => ?_⟩
  obtain ⟨b, off, he, hb, hr⟩ := h.row hp
  refine ⟨b, off, he, hb, fun i hi => ?_⟩
  obtain ⟨a, n, c, h1, h2, h3⟩ := hr i hi
  exact ⟨a, n, c, hg.cell h1 (by simpa using hb), h2.grown hg (fun b' o' hb' hx => by have := h3 b' o' hb' hx; simpa using this), h3⟩

/-- One piece, in a row of its own. -/
theorem Pcs.one {w : World} {g b off : Nat} {a : Option Addr} {n c : Nat} {xs : List Int} (h1 : w.cell? ⟨b, off, none⟩ = some (.slice a n c)) (hb : b ≠ g) (h2 : SrcG .u8 256 w a n c xs) (h3 : ∀ b' o', a = some ⟨b', o', none⟩ → xs ≠ [] → b' ≠ g) : Pcs w g (some ⟨b, off, none⟩) 1 [xs] := by
  refine ⟨rfl, fun _ => ⟨b, off, rfl, hb, fun i hi => ?_⟩⟩
  obtain rfl : i = 0 := by omega
  exact ⟨a, n, c, h1, h2, h3⟩

def lenV : Value → Nat | .slice _ n _ => n | _ => 0

theorem flat_take (ls : List (List Int)) (k : Nat) (h : k < ls.length) : (ls.take (k + 1)).flatten = (ls.take k).flatten ++ ls.getD k [] := by
  rw [List.take_succ_eq_append_getElem h, List.flatten_append]
  simp [List.getD, h]

theorem flat_le (ls : List (List Int)) (k : Nat) : (ls.take k).flatten.length ≤ ls.flatten.length := by
  conv => rhs; rw [← List.take_append_drop k ls]
  rw [List.flatten_append, List.length_append]
  omega

end Go.Proofs.YtgajejomibnghaaDoor
