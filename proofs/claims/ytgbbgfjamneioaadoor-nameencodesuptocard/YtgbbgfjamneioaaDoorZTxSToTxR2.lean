/-
  Rows of strings that a call owns, and appending one to them.
  The document's Words: the words of a text, as a row.
  The document's Fold: a text as it is compared.
-/
import Derived.Test.YtgbbgfjamneioaaDoorZBts
import Derived.Test.YtgbbgfjamneioaaDoorZMoreToTxV1
import Derived.Test.YtgbbgfjamneioaaDoorZTxW1
import Derived.Test.YtgbbgfjamneioaaDoorZTxF0ToStep
import Derived.Test.YtgbbgfjamneioaaDoorZTxL0ToTxT
namespace Go.Proofs.YtgbbgfjamneioaaDoor
open Go.RowKit Go.IntWalk

theorem Tryd.infoS : (Tryd.prog.info? 9).map (fun i => (i.zero, i.size, i.bytes)) = some (some (.string ⟨#[]⟩), 1, 16) := by kernel_rfl

/-- A row of strings that the call owns. -/
def OwnS (w : World) (base : Nat) (v : Value) (ss : List ByteArray) : Prop := w.ownsRow base 9 1 v ss.length (ss.map Value.string)

theorem OwnS.nil (w : World) (base : Nat) : OwnS w base (.slice none 0 0) [] := World.ownsRow_nil _ _ _ _

theorem OwnS.split {w : World} {base : Nat} {v : Value} {ss : List ByteArray} (h : OwnS w base v ss) :
    (v = .slice none 0 0 ∧ ss = []) ∨ ∃ g cap, v = .slice (some ⟨g, 0, none⟩) ss.length cap ∧ base ≤ g ∧ g < w.heap.size ∧ ss.length ≤ cap ∧ cap ≤ maxLen := by
  rcases own_split h with ⟨h1, _, h3⟩ | h
  · exact .inl ⟨h1, by simpa using h3⟩
  · exact .inr h

theorem OwnS.lt {w : World} {base : Nat} {v : Value} {ss : List ByteArray} (h : OwnS w base v ss) : ∀ k, v.ownBlock = some k → base ≤ k ∧ k < w.heap.size := World.ownsRow.lt h

theorem OwnS.belowA {w w' : World} {base : Nat} {v : Value} {ss : List ByteArray} (h : OwnS w base v ss) (hb : Below w.heap.size w w') : OwnS w' base v ss := by
  have hlt := h.lt
  obtain ⟨hl, h⟩ := h
  refine ⟨hl, ?_⟩
  rcases h with h | ⟨g, cap, cur, rfl, hbg, hh, r⟩
  · exact .inl h
  · exact .inr ⟨g, cap, cur, rfl, hbg, by rw [hb.block g (hlt g rfl).2]; exact hh, r⟩

theorem OwnS.alloc {w : World} {base : Nat} {v : Value} {ss : List ByteArray} (h : OwnS w base v ss) (o : Obj) : OwnS (w.alloc o) base v ss := World.ownsRow.alloc h o

theorem OwnS.heap {w w' : World} {base : Nat} {v : Value} {ss : List ByteArray} (h : OwnS w base v ss) (e : w'.heap = w.heap) : OwnS w' base v ss := by
  obtain ⟨hl, h⟩ := h
  refine ⟨hl, ?_⟩
  rcases h with h | ⟨g, cap, cur, rfl, hbg, hh, r⟩
  · exact .inl h
  · exact .inr ⟨g, cap, cur, rfl, hbg, by rw [e]; exact hh, r⟩

theorem OwnS.cells {w : World} {base g n cap : Nat} {ss : List ByteArray} (h : OwnS w base (.slice (some ⟨g, 0, none⟩) n cap) ss) :
    ∀ (j : Nat) x, ss[j]? = some x → w.cell? ⟨g, 0 + j, none⟩ = some (.string x) := by
  intro j x hj
  have h1 := World.ownsRow.cells h (g := g) rfl j (.string x) (by simp [hj])
  rw [add_none] at h1
  exact h1

/-- 'append(l, s)'. -/
theorem wpList_appS {ops : Array Oper} {rest : List Oper} {o : Oper} {a : Act} {Q : Exit → Act → World → Prop} (w : World) (hgd : o.guard = none) (s x : Operand)
    (ho : o.op = .call { callee := .builtin .append, args := #[s, x], argTypes := #[46, 46] })
    (base : Nat) (v : Value) (ss : List ByteArray) (hs : a.eval s = v) (hown : OwnS w base v ss) (b : Nat) (z : ByteArray) (hx : a.eval x = .slice (some ⟨b, 0, none⟩) 1 1) (hcell : w.cell? ⟨b, 0, none⟩ = some (.string z))
    (t : Nat) (ht : ss.length + 1 = t) (hb : t ≤ 4000000000) (hbase : base ≤ w.heap.size)
    (h : ∀ g c' w', OwnS w' base (.slice (some ⟨g, 0, none⟩) t c') (ss ++ [z]) → base ≤ g → g < w'.heap.size → t ≤ c' → c' ≤ maxLen → w.grownBy w' v.ownBlock → wpList Tryd.prog ops Q rest (a.put o.dst (.slice (some ⟨g, 0, none⟩) t c')) w') :
    wpList Tryd.prog ops Q (o :: rest) a w := by
  obtain ⟨i0, hi, hz0, hz1, hz2⟩ := info_parts Tryd.infoS
  refine wpList_append_own w hgd s x 46 ho base 9 i0 (.string ⟨#[]⟩) 1 16 Tryd.underlying46 hi hz0 hz1 hz2 rfl (by decide) v _ _ hs hown ⟨b, 0, none⟩ 1 1 [.string z] hx rfl ?_ (by simp; rfl) (by unfold maxLen; omega) (by omega) hbase ?_
  · intro j u hj
    match j, hj with
    | 0, hj => simp at hj; subst hj; rw [add_none]; exact hcell
  · intro v' w' h1 h2 h3
    have h1' : OwnS w' base v' (ss ++ [z]) := by unfold OwnS; rw [List.length_append, List.map_append]; exact h1
    rcases h1'.split with ⟨hv, hx'⟩ | ⟨g, c', hv, hb', hl', hc', hm'⟩
    · simp at hx'
    · have e : (ss ++ [z]).length = t := by rw [List.length_append]; exact ht
      rw [e] at hv hc'
      subst hv
      exact h g c' w' h1' hb' hl' hc' hm' h2

end Go.Proofs.YtgbbgfjamneioaaDoor

namespace Go.Proofs.YtgbbgfjamneioaaDoor
open Go.RowKit Go.IntWalk

/-- Words as texts. -/
def texts (ws : List (List UInt8)) : List ByteArray := ws.map (fun u => ⟨u.toArray⟩)

/-- What has been told of the words, and what is left. -/
def WRel (l : List UInt8) (ws : List (List UInt8)) (a k : Nat) : Prop := (k ≤ l.length → wordsL l = ws ++ wordsG (cutL l a k) (l.drop k)) ∧ (l.length < k → wordsL l = ws)

theorem wrel_start (l : List UInt8) : WRel l [] 0 0 := ⟨fun _ => words_begin l, fun h => by omega⟩

theorem wrel_end (l : List UInt8) (ws : List (List UInt8)) (a k : Nat) (h : WRel l ws a k) (hk : l.length < k) : wordsL l = ws := h.2 hk

theorem wrel_step (l : List UInt8) (ws : List (List UInt8)) (a k : Nat) (h : WRel l ws a k) (hak : a ≤ k) (hk : k < l.length) (hb : l[k]'hk ≠ 32) : WRel l ws a (k + 1) := by
  refine ⟨fun _ => ?_, fun h => by omega⟩
  rw [h.1 (by omega), words_step l a k 1 hak (by omega) ?_]
  intro b hb2
  have e : (l.drop k).take 1 = [l[k]'hk] := by rw [List.drop_eq_getElem_cons hk]; rfl
  rw [e] at hb2
  have hb3 := List.mem_singleton.1 hb2
  subst hb3
  exact hb

theorem wrel_empty (l : List UInt8) (ws : List (List UInt8)) (a k : Nat) (h : WRel l ws a k) (hk : k ≤ l.length) (e : a = k) (hs : k = l.length ∨ ∃ h : k < l.length, l[k]'h = 32) : WRel l ws (k + 1) (k + 1) := by
  subst e
  rcases hs with hs | ⟨hlt, hs⟩
  · subst hs
    refine ⟨fun h => by omega, fun _ => ?_⟩
    rw [h.1 (Nat.le_refl _), words_end l _ (Nat.le_refl _), if_pos rfl, List.append_nil]
  · refine ⟨fun _ => ?_, fun h => by omega⟩
    rw [h.1 hk, words_blank l a a hlt hs (Nat.le_refl _), if_pos rfl]

theorem wrel_word (l : List UInt8) (ws : List (List UInt8)) (a k : Nat) (h : WRel l ws a k) (hk : k ≤ l.length) (e : a < k) (hs : k = l.length ∨ ∃ h : k < l.length, l[k]'h = 32) : WRel l (ws ++ [cutL l a k]) (k + 1) (k + 1) := by
  rcases hs with hs | ⟨hlt, hs⟩
  · subst hs
    refine ⟨fun h => by omega, fun _ => ?_⟩
    rw [h.1 (Nat.le_refl _), words_end l _ (by omega), if_neg (by omega)]
  · refine ⟨fun _ => ?_, fun h => by omega⟩
    rw [h.1 hk, words_blank l a k hlt hs (by omega), if_neg (by omega), List.append_assoc]
    rfl

theorem stop_list (s : ByteArray) (k : Nat) (h : k = s.size ∨ ∃ h : k < s.size, (s[k]'h) = 32) : k = s.data.toList.length ∨ ∃ h : k < s.data.toList.length, s.data.toList[k]'h = 32 := by
  rcases h with h | ⟨h, e⟩
  · left; rw [size_len]; exact h
  · right; exact ⟨by rw [size_len]; exact h, by rw [get_list s k h]; exact e⟩

theorem texts_more (ws : List (List UInt8)) (u : List UInt8) : texts (ws ++ [u]) = texts ws ++ [⟨u.toArray⟩] := by simp [texts]

end Go.Proofs.YtgbbgfjamneioaaDoor

namespace Go.Proofs.YtgbbgfjamneioaaDoor
open Go.RowKit Go.IntWalk
attribute [local go_sem ↓] appOf_of

end Go.Proofs.YtgbbgfjamneioaaDoor
