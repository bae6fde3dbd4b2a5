/-
  The words of a row of bytes. No program.
  Small facts on rows that a call itself has made, and on the bytes of a slice. No program.
-/
import Derived.Test.YtgbbgfjamneioaaDoorZTxM
import Derived.WalkKit
import Derived.WalkLawsBesides
import Derived.Laws.AppendOwnNone
import Derived.Laws.OwnMore
namespace Go.Proofs.YtgbbgfjamneioaaDoor

/-- The words of what has been gone over since the last blank, and of what is left. -/
def wordsG (cur : List UInt8) : List UInt8 → List (List UInt8)
  | [] => if cur.length = 0 then [] else [cur]
  | b :: r => if b = 32 then (if cur.length = 0 then wordsG [] r else cur :: wordsG [] r) else wordsG (cur ++ [b]) r
/-- The words of a row of bytes. -/
def wordsL (l : List UInt8) : List (List UInt8) := wordsG [] l

theorem wordsG_run : ∀ (u r cur : List UInt8), (∀ b ∈ u, b ≠ 32) → wordsG cur (u ++ r) = wordsG (cur ++ u) r
  | [], r, cur, _ => by simp
  | b :: u, r, cur, h => by
    rw [List.cons_append, wordsG, if_neg (h b (by simp)), wordsG_run u r (cur ++ [b]) (fun x hx => h x (List.mem_cons_of_mem _ hx))]
    simp

theorem wordsG_all : ∀ (r cur : List UInt8), (∀ u ∈ wordsG cur r, 0 < u.length)
  | [], cur => by
    intro u hu
    rw [wordsG] at hu
    split at hu
    · cases hu
    · simp at hu; subst hu; omega
  | b :: r, cur => by
    intro u hu
    rw [wordsG] at hu
    split at hu
    · split at hu
      · exact wordsG_all r [] u hu
      · rcases List.mem_cons.1 hu with rfl | hu
        · omega
        · exact wordsG_all r [] u hu
    · exact wordsG_all r _ u hu

theorem wordsL_pos (l : List UInt8) : ∀ u ∈ wordsL l, 0 < u.length := wordsG_all l []

/-- How many words there are, and how long they are together with what stands between. -/
def spanW : List (List UInt8) → Nat
  | [] => 0
  | u :: r => u.length + 1 + spanW r

theorem spanW_le : ∀ (r cur : List UInt8), spanW (wordsG cur r) ≤ cur.length + r.length + 1
  | [], cur => by
    rw [wordsG]
    split
    · simp [spanW]
    · simp [spanW]
  | b :: r, cur => by
    rw [wordsG, List.length_cons]
    split
    · split
      · have := spanW_le r []; simp at this; omega
      · have := spanW_le r []; simp at this; simp only [spanW]; omega
    · have := spanW_le r (cur ++ [b]); simp at this; omega

theorem words_count (ws : List (List UInt8)) : ws.length ≤ spanW ws := by
  induction ws with
  | nil => simp [spanW]
  | cons u r ih => simp only [spanW, List.length_cons]; omega

/-- What stands from a place on, up to another one. -/
def cutL (l : List UInt8) (a b : Nat) : List UInt8 := (l.take b).drop a

theorem cutL_len (l : List UInt8) (a b : Nat) (hb : b ≤ l.length) : (cutL l a b).length = b - a := by unfold cutL; rw [List.length_drop, List.length_take]; omega

theorem cutL_more (l : List UInt8) (a p n : Nat) (h : a ≤ p) (hp : p ≤ l.length) : cutL l a p ++ (l.drop p).take n = cutL l a (p + n) := by
  unfold cutL
  rw [List.take_add, List.drop_append_of_le_length (by rw [List.length_take]; omega)]

theorem cutL_same (l : List UInt8) (a : Nat) : cutL l a a = [] := by unfold cutL; rw [List.drop_eq_nil_of_le (by rw [List.length_take]; omega)]

/-- A step over bytes that are no blanks. -/
theorem words_step (l : List UInt8) (a p n : Nat) (h : a ≤ p) (hp : p ≤ l.length) (hn : ∀ b ∈ (l.drop p).take n, b ≠ 32) : wordsG (cutL l a p) (l.drop p) = wordsG (cutL l a (p + n)) (l.drop (p + n)) := by
  have h1 := wordsG_run ((l.drop p).take n) ((l.drop p).drop n) (cutL l a p) hn
  rw [List.take_append_drop, cutL_more l a p n h hp, List.drop_drop] at h1
  exact h1

/-- A step over a blank. -/
theorem words_blank (l : List UInt8) (a p : Nat) (hp : p < l.length) (hb : l[p]'hp = 32) (h : a ≤ p) :
    wordsG (cutL l a p) (l.drop p) = if a = p then wordsG (cutL l (p + 1) (p + 1)) (l.drop (p + 1)) else cutL l a p :: wordsG (cutL l (p + 1) (p + 1)) (l.drop (p + 1)) := by
  rw [List.drop_eq_getElem_cons hp, wordsG, if_pos hb, cutL_len l a p (by omega), cutL_same]
  by_cases e : a = p
  · rw [if_pos (by omega), if_pos e]
  · rw [if_neg (by omega), if_neg e]

theorem words_end (l : List UInt8) (a : Nat) (h : a ≤ l.length) : wordsG (cutL l a l.length) (l.drop l.length) = if a = l.length then [] else [cutL l a l.length] := by
  rw [List.drop_length, wordsG, cutL_len l a _ (Nat.le_refl _)]
  by_cases e : a = l.length
  · rw [if_pos (by omega), if_pos e]
  · rw [if_neg (by omega), if_neg e]

theorem words_begin (l : List UInt8) : wordsL l = wordsG (cutL l 0 0) (l.drop 0) := by unfold wordsL; rw [cutL_same]; rfl

/-- No byte of a character of more than one byte is a blank; nor of what is none. -/
theorem char_noblank (l : List UInt8) (n : Nat) (h : 128 ≤ bt l 0) (hn : n = charL l ∨ n = 1) : ∀ b ∈ l.take n, b ≠ 32 := by
  intro b hb
  obtain ⟨k, hk, rfl⟩ := List.getElem_of_mem hb
  rw [List.length_take] at hk
  rw [List.getElem_take]
  have e : (l[k]'(by omega)).toNat = bt l k := by unfold bt; rw [List.getD_eq_getElem?_getD, List.getElem?_eq_getElem (by omega)]; rfl
  have hbk : bt l k ≠ 32 := by
    rcases Nat.eq_zero_or_pos k with rfl | hk0
    · omega
    · have hc : n = charL l := by omega
      subst hc
      have hck : ct l k = true := by
        unfold charL at hk
        rw [if_neg (by omega)] at hk
        split at hk
        · rename_i h1
          split at hk
          · obtain rfl : k = 1 := by omega
            exact h1.2
          · omega
        · split at hk
          · rename_i h1
            split at hk
            · rcases (by omega : k = 1 ∨ k = 2) with rfl | rfl
              · exact h1.2.1
              · exact h1.2.2
            · omega
          · split at hk
            · rename_i h1
              split at hk
              · rcases (by omega : k = 1 ∨ k = 2 ∨ k = 3) with rfl | rfl | rfl
                · exact h1.2.1
                · exact h1.2.2.1
                · exact h1.2.2.2
              · omega
            · omega
      have := ((ct_iff _ _).1 hck).2
      omega
  intro e2
  apply hbk
  rw [← e, e2]
  rfl

end Go.Proofs.YtgbbgfjamneioaaDoor

namespace Go.Proofs.YtgbbgfjamneioaaDoor
open Go.RowKit

theorem hide {p : Prop} (h : p) : Hid p := h
theorem unhide {p : Prop} (h : Hid p) : p := h

theorem own_split {w : World} {base : Nat} {e : TypeId} {v : Value} {n : Nat} {xs : List Value} (h : w.ownsRow base e 1 v n xs) :
    (v = .slice none 0 0 ∧ n = 0 ∧ xs = []) ∨ ∃ g cap, v = .slice (some ⟨g, 0, none⟩) n cap ∧ base ≤ g ∧ g < w.heap.size ∧ n ≤ cap ∧ cap ≤ maxLen := by
  obtain ⟨hl, h⟩ := h
  rcases h with ⟨rfl, rfl⟩ | ⟨g, cap, cur, rfl, hb, hh, hn, hm, _⟩
  · exact .inl ⟨rfl, rfl, List.eq_nil_of_length_eq_zero (by simpa using hl)⟩
  · refine .inr ⟨g, cap, rfl, hb, ?_, hn, hm⟩
    obtain ⟨h1, _⟩ := Array.getElem?_eq_some_iff.1 hh
    exact h1

theorem own_lit {w : World} (base : Nat) (e : TypeId) (xs : List Value) (n : Nat) (hn : xs.length = n) (hb : base ≤ w.heap.size) (hm : n ≤ maxLen) :
    (w.alloc (.cells xs.toArray e)).ownsRow base e 1 (.slice (some ⟨w.heap.size, 0, none⟩) n n) n xs := by
  refine ⟨by omega, .inr ⟨w.heap.size, n, xs.toArray, rfl, hb, ?_, Nat.le_refl _, hm, by simp; omega, ?_⟩⟩
  · exact (MapKept.heap_alloc w _).1
  · rw [Nat.mul_one, ← hn]; simp

/-- A row that the call owns is a row of cells that can be read. -/
theorem own_cells {w : World} {base : Nat} {e : TypeId} {g n cap : Nat} {xs : List Value} (h : w.ownsRow base e 1 (.slice (some ⟨g, 0, none⟩) n cap) n xs) :
    ∀ j u, xs[j]? = some u → w.cell? ((⟨g, 0, none⟩ : Addr).add j) = some u := h.cells rfl

theorem ints_one (xs : List Int) (k : IntKind) : ∀ u ∈ xs.map (Value.int k), u.oneCell' = true := by
  intro u hu
  simp at hu
  obtain ⟨x, _, rfl⟩ := hu
  rfl

end Go.Proofs.YtgbbgfjamneioaaDoor
