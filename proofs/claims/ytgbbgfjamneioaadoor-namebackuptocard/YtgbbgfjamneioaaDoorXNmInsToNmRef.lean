/-
  bytes.Equal; the document's All, and its inside: the elements in bytes that are one element of a tag.
  Rows of strings that a call owns, and appending one to them.
  The document's Words: the words of a text, as a row.
  The document's Fold: a text as it is compared.
  The document's Alike, Begins and Same of rows of attributes.
-/
import Derived.Lib.Bytes
import Derived.Test.YtgbbgfjamneioaaDoorXNmDecM
import Derived.Test.YtgbbgfjamneioaaDoorXOneToLent
import Derived.Test.YtgbbgfjamneioaaDoorXBaseToBts
import Derived.Test.YtgbbgfjamneioaaDoorXMoreToNextS
import Derived.Test.YtgbbgfjamneioaaDoorXTxW1
import Derived.Test.YtgbbgfjamneioaaDoorXTxF0ToTxF1
import Derived.Test.YtgbbgfjamneioaaDoorXTxTToTxL2
import Derived.Test.YtgbbgfjamneioaaDoorXTxL0ToPut
import Derived.Test.YtgbbgfjamneioaaDoorXNmRow
import Derived.Deep.QuietTactic
import Derived.BigQuiet
namespace Go.Proofs.YtgbbgfjamneioaaDoor
open Go.RowKit Go.IntWalk Go.Shelf

theorem byte_injN : ∀ {xs ys : List Int}, (∀ x ∈ xs, 0 ≤ x ∧ x < 256) → (∀ x ∈ ys, 0 ≤ x ∧ x < 256) → Lib.bytesOf xs = Lib.bytesOf ys → xs = ys
  | [], [], _, _, _ => rfl
  | [], _ :: _, _, _, h => by simp [Lib.bytesOf] at h
  | _ :: _, [], _, _, h => by simp [Lib.bytesOf] at h
  | x :: xs, y :: ys, hx, hy, h => by
    simp only [Lib.bytesOf, List.map_cons, List.cons.injEq] at h
    have hx0 := hx x (by simp)
    have hy0 := hy y (by simp)
    have e : x.toNat % 256 = y.toNat % 256 := by
      have := congrArg UInt8.toNat h.1
      simpa [UInt8.toNat_ofNat'] using this
    have e2 : x = y := by omega
    rw [e2, byte_injN (fun z hz => hx z (by simp [hz])) (fun z hz => hy z (by simp [hz])) h.2]
/-- Texts of bytes are one just if the bytes are. -/
theorem textN_eq {xs ys : List Int} (hx : ∀ x ∈ xs, 0 ≤ x ∧ x < 256) (hy : ∀ x ∈ ys, 0 ≤ x ∧ x < 256) : ((strOfNums xs).toList == (strOfNums ys).toList) = decide (xs = ys) := by
  by_cases h : xs = ys
  · subst h; simp
  · rw [decide_eq_false h]
    apply beq_eq_false_iff_ne.2
    intro he
    rw [Lib.strOfNums_toList, Lib.strOfNums_toList] at he
    exact h (byte_injN hx hy he)

set_option maxRecDepth 100000 in
theorem equalN_any (a1 : Option Addr) (n1 c1 : Nat) (xs : List Int) (a2 : Option Addr) (n2 c2 : Nat) (ys : List Int) (w : World) (h1 : Src w a1 n1 c1 xs) (h2 : Src w a2 n2 c2 ys) :
    Calls Tryd.prog 43 #[.slice a1 n1 c1, .slice a2 n2 c2] w fun e w' => e = .returned (.bool (decide (xs = ys))) ∧ w' = w := by
  have t1 := h1.text
  have t2 := h2.text
  have he := textN_eq h1.hbyt h2.hbyt
  generalize strOfNums xs = s1 at *
  generalize strOfNums ys = s2 at *
  clear h1 h2
  go_enter Tryd.func43, Tryd.ntmps43
  go_wp2
  go_ret
  exact ⟨by rw [← he]; rfl, rfl⟩

theorem placesN_len (xs : List Int) : ∀ f p, (placesF xs f p).length ≤ f
  | 0, _ => Nat.le_refl _
  | f + 1, p => by
    unfold placesF
    split
    · have := placesN_len xs f (p + (findS (xs.drop p)).2.2.1.toNat)
      simp only [List.length_cons]
      omega
    · simp

/-- A row of elements, of new memory. -/
structure ElsN (w : World) (base : Nat) (ao : Option Addr) (n cap : Nat) (es : List (Int × List Int)) : Prop where
  hl : es.length = n
  hcap : n ≤ cap
  hmax : cap ≤ maxLen
  hbyt : ∀ e ∈ es, ∀ x ∈ e.2, 0 ≤ x ∧ x < 256
  hrd : 0 < n → ∃ b off, ao = some ⟨b, off, none⟩ ∧ base ≤ b ∧ ∀ i, i < n → ∃ a m c, w.cell? ⟨b, off + i * 2, none⟩ = some (.int .i64 (es.getD i (0, [])).1) ∧ w.cell? ⟨b, off + i * 2 + 1, none⟩ = some (.slice a m c) ∧ OwnB w base (.slice a m c) (es.getD i (0, [])).2
theorem ElsN.below {w w' : World} {base : Nat} {ao : Option Addr} {n cap : Nat} {es : List (Int × List Int)} (h : ElsN w base ao n cap es) (hb : Below w.heap.size w w') : ElsN w' base ao n cap es := by
  refine ⟨h.hl, h.hcap, h.hmax, h.hbyt, fun hn => ?_⟩
  obtain ⟨b, off, he, hbb, hc⟩ := h.hrd hn
  refine ⟨b, off, he, hbb, fun i hi => ?_⟩
  obtain ⟨a, m, c, h1, h2, h3⟩ := hc i hi
  exact ⟨a, m, c, (hb.cell (lt_of_cell h1)).trans h1, (hb.cell (lt_of_cell h2)).trans h2, row_below h3 hb⟩
theorem ElsN.rebase {w : World} {base base' : Nat} {ao : Option Addr} {n cap : Nat} {es : List (Int × List Int)} (h : ElsN w base' ao n cap es) (hb : base ≤ base') : ElsN w base ao n cap es := by
  refine ⟨h.hl, h.hcap, h.hmax, h.hbyt, fun hn => ?_⟩
  obtain ⟨b, off, he, hbb, hc⟩ := h.hrd hn
  refine ⟨b, off, he, by omega, fun i hi => ?_⟩
  obtain ⟨a, m, c, h1, h2, h3⟩ := hc i hi
  exact ⟨a, m, c, h1, h2, OwnB.rebase h3 hb⟩
theorem ElsN.nil (w : World) (base : Nat) : ElsN w base none 0 0 [] := ⟨rfl, Nat.le_refl _, by decide, by simp, fun h => absurd h (by omega)⟩
theorem ematch_at {W : World} {base : Nat} : ∀ {cs : List Value} {es : List (Int × List Int)}, EMatch W base cs es → ∀ i, i < es.length → cs[i * 2]? = some (.int .i64 (es.getD i (0, [])).1) ∧ ∃ a m c, cs[i * 2 + 1]? = some (.slice a m c) ∧ OwnB W base (.slice a m c) (es.getD i (0, [])).2
  | [], [], _, i, h => by simp at h
  | _ :: _ :: _, e :: es, ⟨h1, ⟨a, m, c, h2⟩, h3, h4⟩, i, h => by
    cases i with
    | zero => subst h1 h2; exact ⟨rfl, a, m, c, rfl, h3⟩
    | succ i =>
      have ih := ematch_at h4 i (by simpa using h)
      rw [show (i + 1) * 2 = i * 2 + 1 + 1 by omega]
      simpa using ih
theorem RowSt.els {w : World} {base : Nat} {a1 : Option Addr} {K c1 : Nat} {P : Value} {xs : List Int} {ps : List Nat} {cs : List Value} (h : RowSt w base (.slice a1 K c1) P xs ps cs) (hb : ∀ x ∈ xs, 0 ≤ x ∧ x < 256) (hK : ps.length = K) : ElsN w base a1 K c1 (ps.map (elS xs)) := by
  have hl := h.hl
  rw [hK] at hl
  obtain ⟨h1, ⟨h2, h3⟩ | ⟨g, cap, cur, h2, h3, h4, h5, h6, h7⟩⟩ := hl
  · cases h2
    have hp : ps = [] := List.eq_nil_of_length_eq_zero hK
    subst hp
    exact ElsN.nil w base
  · cases h2
    refine ⟨by rw [List.length_map]; exact hK, h5, h6, fun e he => ?_, fun hn => ⟨g, 0, rfl, h3, fun i hi => ?_⟩⟩
    · obtain ⟨p, _, rfl⟩ := List.mem_map.1 he
      unfold elS
      exact contS_byte _ (fun y hy => hb y (List.mem_of_mem_drop hy))
    · obtain ⟨k1, a, m, c, k2, k3⟩ := ematch_at h.hm i (by rw [List.length_map, hK]; exact hi)
      have e1 := World.ownsRow.cells h.hl (g := g) rfl _ _ k1
      have e2 := World.ownsRow.cells h.hl (g := g) rfl _ _ k2
      rw [add_none, Nat.zero_add] at e1 e2
      rw [Nat.zero_add]
      exact ⟨a, m, c, e1, e2, k3⟩

/-- The elements that All tells; where it ends. -/
def allE (xs : List Int) : List (Int × List Int) := if rowErr xs = 0 then (placesS xs 0).map (elS xs) else []
def allQ (xs : List Int) : Int := ((endS xs (placesS xs 0) : Nat) : Int)
theorem allE_ok {xs : List Int} (h : rowErr xs = 0) : allE xs = (placesS xs 0).map (elS xs) := by unfold allE; rw [if_pos h]
theorem allE_no {xs : List Int} (h : rowErr xs ≠ 0) : allE xs = [] := by unfold allE; rw [if_neg h]

end Go.Proofs.YtgbbgfjamneioaaDoor

namespace Go.Proofs.YtgbbgfjamneioaaDoor
open Go.RowKit Go.IntWalk

theorem Tryd.infoS : (Tryd.prog.info? 9).map (fun i => (i.zero, i.size, i.bytes)) = some (some (.string ⟨#[]⟩), 1, 16) := by kernel_rfl

/-- A row of strings that the call owns. -/
def OwnS (w : World) (base : Nat) (v : Value) (ss : List ByteArray) : Prop := w.ownsRow base 9 1 v ss.length (ss.map Value.string)

theorem OwnS.nil (w : World) (base : Nat) : OwnS w base (.slice none 0 0) [] := World.ownsRow_nil _ _ _ _

theorem OwnS.split {w : World} {base : Nat} {v : Value} {ss : List ByteArray} (h : OwnS w base v ss) :
    (v = .slice none 0 0 ∧ ss = []) ∨ ∃ g cap, v = .slice (some ⟨g, 0, none⟩) ss.length cap ∧ base ≤ g ∧ g < w.heap.size ∧ ss.length ≤ cap ∧ cap ≤ maxLen := by
  rcases own_split h with ⟨h1, _, h3⟩ | h
  · exact .inl ⟨h1, by simpa using h3⟩
  · exact .inr h

theorem OwnS.lt {w : World} {base : Nat} {v : Value} {ss : List ByteArray} (h : OwnS w base v ss) : ∀ k, v.ownBlock = some k → base ≤ k ∧ k < w.heap.size := World.ownsRow.lt h

theorem OwnS.belowA {w w' : World} {base : Nat} {v : Value} {ss : List ByteArray} (h : OwnS w base v ss) (hb : Below w.heap.size w w') : OwnS w' base v ss := by
  have hlt := h.lt
  obtain ⟨hl, h⟩ := h
  refine ⟨hl, ?_⟩
  rcases h with h | ⟨g, cap, cur, rfl, hbg, hh, r⟩
  · exact .inl h
  · exact .inr ⟨g, cap, cur, rfl, hbg, by rw [hb.block g (hlt g rfl).2]; exact hh, r⟩

theorem OwnS.alloc {w : World} {base : Nat} {v : Value} {ss : List ByteArray} (h : OwnS w base v ss) (o : Obj) : OwnS (w.alloc o) base v ss := World.ownsRow.alloc h o

theorem OwnS.heap {w w' : World} {base : Nat} {v : Value} {ss : List ByteArray} (h : OwnS w base v ss) (e : w'.heap = w.heap) : OwnS w' base v ss := by
  obtain ⟨hl, h⟩ := h
  refine ⟨hl, ?_⟩
  rcases h with h | ⟨g, cap, cur, rfl, hbg, hh, r⟩
  · exact .inl h
  · exact .inr ⟨g, cap, cur, rfl, hbg, by rw [e]; exact hh, r⟩

theorem OwnS.cells {w : World} {base g n cap : Nat} {ss : List ByteArray} (h : OwnS w base (.slice (some ⟨g, 0, none⟩) n cap) ss) :
    ∀ (j : Nat) x, ss[j]? = some x → w.cell? ⟨g, 0 + j, none⟩ = some (.string x) := by
  intro j x hj
  have h1 := World.ownsRow.cells h (g := g) rfl j (.string x) (by simp [hj])
  rw [add_none] at h1
  exact h1

/-- 'append(l, s)'. -/
theorem wpList_appS {ops : Array Oper} {rest : List Oper} {o : Oper} {a : Act} {Q : Exit → Act → World → Prop} (w : World) (hgd : o.guard = none) (s x : Operand)
    (ho : o.op = .call { callee := .builtin .append, args := #[s, x], argTypes := #[46, 46] })
    (base : Nat) (v : Value) (ss : List ByteArray) (hs : a.eval s = v) (hown : OwnS w base v ss) (b : Nat) (z : ByteArray) (hx : a.eval x = .slice (some ⟨b, 0, none⟩) 1 1) (hcell : w.cell? ⟨b, 0, none⟩ = some (.string z))
    (t : Nat) (ht : ss.length + 1 = t) (hb : t ≤ 4000000000) (hbase : base ≤ w.heap.size)
    (h : ∀ g c' w', OwnS w' base (.slice (some ⟨g, 0, none⟩) t c') (ss ++ [z]) → base ≤ g → g < w'.heap.size → t ≤ c' → c' ≤ maxLen → w.grownBy w' v.ownBlock → wpList Tryd.prog ops Q rest (a.put o.dst (.slice (some ⟨g, 0, none⟩) t c')) w') :
    wpList Tryd.prog ops Q (o :: rest) a w := by
  obtain ⟨i0, hi, hz0, hz1, hz2⟩ := info_parts Tryd.infoS
  refine wpList_append_own w hgd s x 46 ho base 9 i0 (.string ⟨#[]⟩) 1 16 Tryd.underlying46 hi hz0 hz1 hz2 rfl (by decide) v _ _ hs hown ⟨b, 0, none⟩ 1 1 [.string z] hx rfl ?_ (by simp; rfl) (by unfold maxLen; omega) (by omega) hbase ?_
  · intro j u hj
    match j, hj with
    | 0, hj => simp at hj; subst hj; rw [add_none]; exact hcell
  · intro v' w' h1 h2 h3
    have h1' : OwnS w' base v' (ss ++ [z]) := by unfold OwnS; rw [List.length_append, List.map_append]; exact h1
    rcases h1'.split with ⟨hv, hx'⟩ | ⟨g, c', hv, hb', hl', hc', hm'⟩
    · simp at hx'
    · have e : (ss ++ [z]).length = t := by rw [List.length_append]; exact ht
      rw [e] at hv hc'
      subst hv
      exact h g c' w' h1' hb' hl' hc' hm' h2

end Go.Proofs.YtgbbgfjamneioaaDoor

namespace Go.Proofs.YtgbbgfjamneioaaDoor
open Go.RowKit Go.IntWalk

/-- Words as texts. -/
def texts (ws : List (List UInt8)) : List ByteArray := ws.map (fun u => ⟨u.toArray⟩)

/-- What has been told of the words, and what is left. -/
def WRel (l : List UInt8) (ws : List (List UInt8)) (a k : Nat) : Prop := (k ≤ l.length → wordsL l = ws ++ wordsG (cutL l a k) (l.drop k)) ∧ (l.length < k → wordsL l = ws)

theorem wrel_start (l : List UInt8) : WRel l [] 0 0 := ⟨fun _ => words_begin l, fun h => by omega⟩

theorem wrel_end (l : List UInt8) (ws : List (List UInt8)) (a k : Nat) (h : WRel l ws a k) (hk : l.length < k) : wordsL l = ws := h.2 hk

theorem wrel_step (l : List UInt8) (ws : List (List UInt8)) (a k : Nat) (h : WRel l ws a k) (hak : a ≤ k) (hk : k < l.length) (hb : l[k]'hk ≠ 32) : WRel l ws a (k + 1) := by
  refine ⟨fun _ => ?_, fun h => by omega⟩
  rw [h.1 (by omega), words_step l a k 1 hak (by omega) ?_]
  intro b hb2
  have e : (l.drop k).take 1 = [l[k]'hk] := by rw [List.drop_eq_getElem_cons hk]; rfl
  rw [e] at hb2
  have hb3 := List.mem_singleton.1 hb2
  subst hb3
  exact hb

theorem wrel_empty (l : List UInt8) (ws : List (List UInt8)) (a k : Nat) (h : WRel l ws a k) (hk : k ≤ l.length) (e : a = k) (hs : k = l.length ∨ ∃ h : k < l.length, l[k]'h = 32) : WRel l ws (k + 1) (k + 1) := by
  subst e
  rcases hs with hs | ⟨hlt, hs⟩
  · subst hs
    refine ⟨fun h => by omega, fun _ => ?_⟩
    rw [h.1 (Nat.le_refl _), words_end l _ (Nat.le_refl _), if_pos rfl, List.append_nil]
  · refine ⟨fun _ => ?_, fun h => by omega⟩
    rw [h.1 hk, words_blank l a a hlt hs (Nat.le_refl _), if_pos rfl]

theorem wrel_word (l : List UInt8) (ws : List (List UInt8)) (a k : Nat) (h : WRel l ws a k) (hk : k ≤ l.length) (e : a < k) (hs : k = l.length ∨ ∃ h : k < l.length, l[k]'h = 32) : WRel l (ws ++ [cutL l a k]) (k + 1) (k + 1) := by
  rcases hs with hs | ⟨hlt, hs⟩
  · subst hs
    refine ⟨fun h => by omega, fun _ => ?_⟩
    rw [h.1 (Nat.le_refl _), words_end l _ (by omega), if_neg (by omega)]
  · refine ⟨fun _ => ?_, fun h => by omega⟩
    rw [h.1 hk, words_blank l a k hlt hs (by omega), if_neg (by omega), List.append_assoc]
    rfl

theorem stop_list (s : ByteArray) (k : Nat) (h : k = s.size ∨ ∃ h : k < s.size, (s[k]'h) = 32) : k = s.data.toList.length ∨ ∃ h : k < s.data.toList.length, s.data.toList[k]'h = 32 := by
  rcases h with h | ⟨h, e⟩
  · left; rw [size_len]; exact h
  · right; exact ⟨by rw [size_len]; exact h, by rw [get_list s k h]; exact e⟩

theorem texts_more (ws : List (List UInt8)) (u : List UInt8) : texts (ws ++ [u]) = texts ws ++ [⟨u.toArray⟩] := by simp [texts]

end Go.Proofs.YtgbbgfjamneioaaDoor

namespace Go.Proofs.YtgbbgfjamneioaaDoor
open Go.RowKit Go.IntWalk
attribute [local go_sem ↓] appOf_of

end Go.Proofs.YtgbbgfjamneioaaDoor

namespace Go.Proofs.YtgbbgfjamneioaaDoor
open Go.RowKit Go.IntWalk Go.Shelf

theorem bs_ne {a b : ByteArray} (h : a ≠ b) : (a.toList == b.toList) = false := by
  rw [beq_eq_false_iff_ne, ByteArray.toList_eq, ByteArray.toList_eq]
  intro e
  exact h (ByteArray.ext (Array.ext' e))

theorem at_all {A B : List (Int × ByteArray)} (hl : A.length = B.length) (h : ∀ j, j < A.length → A[j]? = B[j]?) : A = B := by
  apply List.ext_getElem? 
  intro j
  by_cases hj : j < A.length
  · exact h j hj
  · rw [List.getElem?_eq_none (by omega), List.getElem?_eq_none (by omega)]
theorem at_key {xs : List (Int × ByteArray)} {i : Nat} (h : i < xs.length) : xs[i]? = some (xs.getD i (0, ByteArray.empty)) := by
  simp [h, List.getD]

set_option maxRecDepth 100000 in
set_option maxHeartbeats 2000000 in
theorem ralike_any (aa : Option Addr) (na ca : Nat) (xs : List (Int × ByteArray)) (ab : Option Addr) (nb cb : Nat) (ys : List (Int × ByteArray)) (w : World) (hA : Ats w aa na ca xs) (hB : Ats w ab nb cb ys) :
    Calls Tryd.prog 35 #[.slice aa na ca, .slice ab nb cb] w fun e w' => e = .returned (.bool (decide (xs = ys))) ∧ Below w.heap.size w w' := by
  have a1 := hA.hcap
  have a2 := hA.hmax
  have b1 := hB.hcap
  have b2 := hB.hmax
  unfold maxLen at a2 b2
  have na1 : (na : Int) ≤ 9223372036854775807 := by omega
  have nb1 : (nb : Int) ≤ 9223372036854775807 := by omega
  have hla := hA.hl
  have hlb := hB.hl
  by_cases hn : na = nb
  · subst hn
    have HA := hide hA
    have HB := hide hB
    have HLA := hide hla
    have HLB := hide hlb
    have hnn : ((na : Int) != (na : Int)) = false := by simp
    clear hA hB a1 a2 b1 b2 hla hlb
    go_enter Tryd.func35, Tryd.ntmps35
    go_wp2
    go_loopw [5] (fun v wr => ∃ i : Nat, i ≤ na ∧ v = .int .i64 i ∧ Below w.heap.size w wr ∧ Hid (∀ j, j < i → xs[j]? = ys[j]?)) (fun v _ => na - (intOf v).toNat)
    case atStart => exact ⟨0, Nat.zero_le _, rfl, Below.refl _ _, fun j hj => absurd hj (by omega)⟩
    case round =>
      obtain ⟨i, hi, rfl, hQ, hE⟩ := hrel
      by_cases hik : i < na
      · obtain ⟨b, off, rfl, hc⟩ := (HA.out.below hQ).hrd (by omega)
        obtain ⟨b', off', rfl, hc'⟩ := (HB.out.below hQ).hrd (by omega)
        obtain ⟨c0, c1⟩ := hc i (by omega)
        obtain ⟨d0, d1⟩ := hc' i (by omega)
        have kx := hide (at_key (xs := xs) (i := i) (by rw [HLA.out]; omega))
        have ky := hide (at_key (xs := ys) (i := i) (by rw [HLB.out]; omega))
        generalize xs.getD i (0, ByteArray.empty) = X at c0 c1 kx
        generalize ys.getD i (0, ByteArray.empty) = Y at d0 d1 ky
        obtain ⟨tx, sx⟩ := X
        obtain ⟨ty, sy⟩ := Y
        simp only [] at c0 c1 d0 d1
        clear hc hc'
        have jk : (i : Int) < (na : Int) := by omega
        have hD := hQ.drew
        by_cases he : tx = ty ∧ sx = sy
        · obtain ⟨rfl, rfl⟩ := he
          have hE' : Hid (∀ j, j < i + 1 → xs[j]? = ys[j]?) := fun j hj => by
            by_cases h : j < i
            · exact hE.out j h
            · obtain rfl : j = i := by omega
              rw [kx.out, ky.out]
          have e1 : (tx != tx) = false := by simp
          have e2 : (sx.toList == sx.toList) = true := by simp
          go_wp2_with fail
          go_region_held3 (fun W => W.cell? ⟨b, off + i * 2, none⟩ = some (.int .i64 tx) ∧ W.cell? ⟨b, off + i * 2 + 1, none⟩ = some (.string sx) ∧ W.cell? ⟨b', off' + i * 2, none⟩ = some (.int .i64 tx) ∧ W.cell? ⟨b', off' + i * 2 + 1, none⟩ = some (.string sx)) (go_keep) (fail)
          all_goals
            go_wp2
            go_roundw
            case rel => exact ⟨i + 1, by omega, by go_num, hD, hE'⟩
            case measure => simp [intOf]; omega
        · have hne : Hid (decide (xs = ys) = false) := by
            unfold Hid
            rw [decide_eq_false_iff_not]
            intro h
            subst h
            have h9 := kx.out.symm.trans ky.out
            simp at h9
            exact he h9
          have hx : tx ≠ ty ∨ (tx = ty ∧ sx ≠ sy) := by
            by_cases h : tx = ty
            · exact .inr ⟨h, fun h2 => he ⟨h, h2⟩⟩
            · exact .inl h
          clear he
          rcases hx with h1 | ⟨rfl, h2⟩
          · have e1 : (tx != ty) = true := by simpa using h1
            go_wp2_with fail
            go_quiet (fail)
            go_wp2
            try simp only [Exit.noGoto_ret]
            go_ret
            exact ⟨by rw [hne.out]; rfl, by exact ⟨hQ.os, hQ.tape, hQ.output, hQ.size, hQ.block⟩⟩
          · have e1 : (tx != tx) = false := by simp
            have e2 := bs_ne h2
            go_wp2_with fail
            go_region_held3 (fun W => W.cell? ⟨b, off + i * 2, none⟩ = some (.int .i64 tx) ∧ W.cell? ⟨b, off + i * 2 + 1, none⟩ = some (.string sx) ∧ W.cell? ⟨b', off' + i * 2, none⟩ = some (.int .i64 tx) ∧ W.cell? ⟨b', off' + i * 2 + 1, none⟩ = some (.string sy)) (go_keep) (fail)
            all_goals
              go_wp2
              try simp only [Exit.noGoto_ret]
              go_ret
              exact ⟨by rw [hne.out]; rfl, hD⟩
      · obtain rfl : i = na := by omega
        have jk : ¬ (i : Int) < (i : Int) := by omega
        have hyes : Hid (decide (xs = ys) = true) := by
          unfold Hid
          rw [decide_eq_true_iff]
          exact at_all (by rw [HLA.out, HLB.out]) (fun j hj => hE.out j (by rw [HLA.out] at hj; exact hj))
        go_wp2
        try simp only [Exit.noGoto_ret]
        go_ret
        exact ⟨by rw [hyes.out]; rfl, hQ⟩
  · have hne : Hid (decide (xs = ys) = false) := by
      unfold Hid
      rw [decide_eq_false_iff_not]
      intro h
      subst h
      omega
    have hnn : ((na : Int) != (nb : Int)) = true := by simpa using (show ¬ (na : Int) = (nb : Int) by omega)
    clear hla hlb a1 a2 b1 b2 hA hB
    go_enter Tryd.func35, Tryd.ntmps35
    go_wp2
    try simp only [Exit.noGoto_ret]
    go_ret
    exact ⟨by rw [hne.out]; rfl, Below.refl _ _⟩

end Go.Proofs.YtgbbgfjamneioaaDoor
