/-
  Rows of strings that a call owns, and appending one to them.
  The document's Words: the words of a text, as a row.
  The document's Fold: a text as it is compared.
  The document's Alike, Begins and Same of rows of attributes.
-/
import Derived.Test.YtgbbgfjamneioaaZBts
import Derived.Test.YtgbbgfjamneioaaZOpenToMore
import Derived.Test.YtgbbgfjamneioaaZTxP4ToTxF0
import Derived.Test.YtgbbgfjamneioaaZTxF1ToTxT
import Derived.Test.YtgbbgfjamneioaaZTxL2ToNmThere
import Derived.Deep.QuietTactic
import Derived.BigQuiet
namespace Go.Proofs.Ytgbbgfjamneioaa
open Go.RowKit Go.IntWalk

theorem Try.infoS : (Try.prog.info? 9).map (fun i => (i.zero, i.size, i.bytes)) = some (some (.string ⟨#[]⟩), 1, 16) := by kernel_rfl

/-- A row of strings that the call owns. -/
def OwnS (w : World) (base : Nat) (v : Value) (ss : List ByteArray) : Prop := w.ownsRow base 9 1 v ss.length (ss.map Value.string)

theorem OwnS.nil (w : World) (base : Nat) : OwnS w base (.slice none 0 0) [] := World.ownsRow_nil _ _ _ _

theorem OwnS.split {w : World} {base : Nat} {v : Value} {ss : List ByteArray} (h : OwnS w base v ss) :
    (v = .slice none 0 0 ∧ ss = []) ∨ ∃ g cap, v = .slice (some ⟨g, 0, none⟩) ss.length cap ∧ base ≤ g ∧ g < w.heap.size ∧ ss.length ≤ cap ∧ cap ≤ maxLen := by
  rcases own_split h with ⟨h1, _, h3⟩ | h
  · exact .inl ⟨h1, by simpa using h3⟩
  · exact .inr h

theorem OwnS.lt {w : World} {base : Nat} {v : Value} {ss : List ByteArray} (h : OwnS w base v ss) : ∀ k, v.ownBlock = some k → base ≤ k ∧ k < w.heap.size := World.ownsRow.lt h

theorem OwnS.belowA {w w' : World} {base : Nat} {v : Value} {ss : List ByteArray} (h : OwnS w base v ss) (hb : Below w.heap.size w w') : OwnS w' base v ss := by
  have hlt := h.lt
  obtain ⟨hl, h⟩ := h
  refine ⟨hl, ?_⟩
  rcases h with h | ⟨g, cap, cur, rfl, hbg, hh, r⟩
  · exact .inl h
  · exact .inr ⟨g, cap, cur, rfl, hbg, by rw [hb.block g (hlt g rfl).2]; exact hh, r⟩

theorem OwnS.alloc {w : World} {base : Nat} {v : Value} {ss : List ByteArray} (h : OwnS w base v ss) (o : Obj) : OwnS (w.alloc o) base v ss := World.ownsRow.alloc h o

theorem OwnS.heap {w w' : World} {base : Nat} {v : Value} {ss : List ByteArray} (h : OwnS w base v ss) (e : w'.heap = w.heap) : OwnS w' base v ss := by
  obtain ⟨hl, h⟩ := h
  refine ⟨hl, ?_⟩
  rcases h with h | ⟨g, cap, cur, rfl, hbg, hh, r⟩
  · exact .inl h
  · exact .inr ⟨g, cap, cur, rfl, hbg, by rw [e]; exact hh, r⟩

theorem OwnS.cells {w : World} {base g n cap : Nat} {ss : List ByteArray} (h : OwnS w base (.slice (some ⟨g, 0, none⟩) n cap) ss) :
    ∀ (j : Nat) x, ss[j]? = some x → w.cell? ⟨g, 0 + j, none⟩ = some (.string x) := by
  intro j x hj
  have h1 := World.ownsRow.cells h (g := g) rfl j (.string x) (by simp [hj])
  rw [add_none] at h1
  exact h1

/-- 'append(l, s)'. -/
theorem wpList_appS {ops : Array Oper} {rest : List Oper} {o : Oper} {a : Act} {Q : Exit → Act → World → Prop} (w : World) (hgd : o.guard = none) (s x : Operand)
    (ho : o.op = .call { callee := .builtin .append, args := #[s, x], argTypes := #[119, 119] })
    (base : Nat) (v : Value) (ss : List ByteArray) (hs : a.eval s = v) (hown : OwnS w base v ss) (b : Nat) (z : ByteArray) (hx : a.eval x = .slice (some ⟨b, 0, none⟩) 1 1) (hcell : w.cell? ⟨b, 0, none⟩ = some (.string z))
    (t : Nat) (ht : ss.length + 1 = t) (hb : t ≤ 4000000000) (hbase : base ≤ w.heap.size)
    (h : ∀ g c' w', OwnS w' base (.slice (some ⟨g, 0, none⟩) t c') (ss ++ [z]) → base ≤ g → g < w'.heap.size → t ≤ c' → c' ≤ maxLen → w.grownBy w' v.ownBlock → wpList Try.prog ops Q rest (a.put o.dst (.slice (some ⟨g, 0, none⟩) t c')) w') :
    wpList Try.prog ops Q (o :: rest) a w := by
  obtain ⟨i0, hi, hz0, hz1, hz2⟩ := info_parts Try.infoS
  refine wpList_append_own w hgd s x 119 ho base 9 i0 (.string ⟨#[]⟩) 1 16 Try.underlying119 hi hz0 hz1 hz2 rfl (by decide) v _ _ hs hown ⟨b, 0, none⟩ 1 1 [.string z] hx rfl ?_ (by simp; rfl) (by unfold maxLen; omega) (by omega) hbase ?_
  · intro j u hj
    match j, hj with
    | 0, hj => simp at hj; subst hj; rw [add_none]; exact hcell
  · intro v' w' h1 h2 h3
    have h1' : OwnS w' base v' (ss ++ [z]) := by unfold OwnS; rw [List.length_append, List.map_append]; exact h1
    rcases h1'.split with ⟨hv, hx'⟩ | ⟨g, c', hv, hb', hl', hc', hm'⟩
    · simp at hx'
    · have e : (ss ++ [z]).length = t := by rw [List.length_append]; exact ht
      rw [e] at hv hc'
      subst hv
      exact h g c' w' h1' hb' hl' hc' hm' h2

end Go.Proofs.Ytgbbgfjamneioaa

namespace Go.Proofs.Ytgbbgfjamneioaa
open Go.RowKit Go.IntWalk

/-- Words as texts. -/
def texts (ws : List (List UInt8)) : List ByteArray := ws.map (fun u => ⟨u.toArray⟩)

/-- What has been told of the words, and what is left. -/
def WRel (l : List UInt8) (ws : List (List UInt8)) (a k : Nat) : Prop := (k ≤ l.length → wordsL l = ws ++ wordsG (cutL l a k) (l.drop k)) ∧ (l.length < k → wordsL l = ws)

theorem wrel_start (l : List UInt8) : WRel l [] 0 0 := ⟨fun _ => words_begin l, fun h => by omega⟩

theorem wrel_end (l : List UInt8) (ws : List (List UInt8)) (a k : Nat) (h : WRel l ws a k) (hk : l.length < k) : wordsL l = ws := h.2 hk

theorem wrel_step (l : List UInt8) (ws : List (List UInt8)) (a k : Nat) (h : WRel l ws a k) (hak : a ≤ k) (hk : k < l.length) (hb : l[k]'hk ≠ 32) : WRel l ws a (k + 1) := by
  refine ⟨fun _ => ?_, fun h => by omega⟩
  rw [h.1 (by omega), words_step l a k 1 hak (by omega) ?_]
  intro b hb2
  have e : (l.drop k).take 1 = [l[k]'hk] := by rw [List.drop_eq_getElem_cons hk]; rfl
  rw [e] at hb2
  have hb3 := List.mem_singleton.1 hb2
  subst hb3
  exact hb

theorem wrel_empty (l : List UInt8) (ws : List (List UInt8)) (a k : Nat) (h : WRel l ws a k) (hk : k ≤ l.length) (e : a = k) (hs : k = l.length ∨ ∃ h : k < l.length, l[k]'h = 32) : WRel l ws (k + 1) (k + 1) := by
  subst e
  rcases hs with hs | ⟨hlt, hs⟩
  · subst hs
    refine ⟨fun h => by omega, fun _ => ?_⟩
    rw [h.1 (Nat.le_refl _), words_end l _ (Nat.le_refl _), if_pos rfl, List.append_nil]
  · refine ⟨fun _ => ?_, fun h => by omega⟩
    rw [h.1 hk, words_blank l a a hlt hs (Nat.le_refl _), if_pos rfl]

theorem wrel_word (l : List UInt8) (ws : List (List UInt8)) (a k : Nat) (h : WRel l ws a k) (hk : k ≤ l.length) (e : a < k) (hs : k = l.length ∨ ∃ h : k < l.length, l[k]'h = 32) : WRel l (ws ++ [cutL l a k]) (k + 1) (k + 1) := by
  rcases hs with hs | ⟨hlt, hs⟩
  · subst hs
    refine ⟨fun h => by omega, fun _ => ?_⟩
    rw [h.1 (Nat.le_refl _), words_end l _ (by omega), if_neg (by omega)]
  · refine ⟨fun _ => ?_, fun h => by omega⟩
    rw [h.1 hk, words_blank l a k hlt hs (by omega), if_neg (by omega), List.append_assoc]
    rfl

theorem stop_list (s : ByteArray) (k : Nat) (h : k = s.size ∨ ∃ h : k < s.size, (s[k]'h) = 32) : k = s.data.toList.length ∨ ∃ h : k < s.data.toList.length, s.data.toList[k]'h = 32 := by
  rcases h with h | ⟨h, e⟩
  · left; rw [size_len]; exact h
  · right; exact ⟨by rw [size_len]; exact h, by rw [get_list s k h]; exact e⟩

theorem texts_more (ws : List (List UInt8)) (u : List UInt8) : texts (ws ++ [u]) = texts ws ++ [⟨u.toArray⟩] := by simp [texts]

end Go.Proofs.Ytgbbgfjamneioaa

namespace Go.Proofs.Ytgbbgfjamneioaa
open Go.RowKit Go.IntWalk
attribute [local go_sem ↓] appOf_of

end Go.Proofs.Ytgbbgfjamneioaa

namespace Go.Proofs.Ytgbbgfjamneioaa
open Go.RowKit Go.IntWalk Go.Shelf

theorem bs_ne {a b : ByteArray} (h : a ≠ b) : (a.toList == b.toList) = false := by
  rw [beq_eq_false_iff_ne, ByteArray.toList_eq, ByteArray.toList_eq]
  intro e
  exact h (ByteArray.ext (Array.ext' e))

theorem at_all {A B : List (Int × ByteArray)} (hl : A.length = B.length) (h : ∀ j, j < A.length → A[j]? = B[j]?) : A = B := by
  apply List.ext_getElem? 
  intro j
  by_cases hj : j < A.length
  · exact h j hj
  · rw [List.getElem?_eq_none (by omega), List.getElem?_eq_none (by omega)]
theorem at_key {xs : List (Int × ByteArray)} {i : Nat} (h : i < xs.length) : xs[i]? = some (xs.getD i (0, ByteArray.empty)) := by
  simp [h, List.getD]

set_option maxRecDepth 100000 in
set_option maxHeartbeats 2000000 in
theorem ralike_any (aa : Option Addr) (na ca : Nat) (xs : List (Int × ByteArray)) (ab : Option Addr) (nb cb : Nat) (ys : List (Int × ByteArray)) (w : World) (hA : Ats w aa na ca xs) (hB : Ats w ab nb cb ys) :
    Calls Try.prog 16 #[.slice aa na ca, .slice ab nb cb] w fun e w' => e = .returned (.bool (decide (xs = ys))) ∧ Below w.heap.size w w' := by
  have a1 := hA.hcap
  have a2 := hA.hmax
  have b1 := hB.hcap
  have b2 := hB.hmax
  unfold maxLen at a2 b2
  have na1 : (na : Int) ≤ 9223372036854775807 := by omega
  have nb1 : (nb : Int) ≤ 9223372036854775807 := by omega
  have hla := hA.hl
  have hlb := hB.hl
  by_cases hn : na = nb
  · subst hn
    have HA := hide hA
    have HB := hide hB
    have HLA := hide hla
    have HLB := hide hlb
    have hnn : ((na : Int) != (na : Int)) = false := by simp
    clear hA hB a1 a2 b1 b2 hla hlb
    go_enter Try.func16, Try.ntmps16
    go_wp2
    go_loopw [5] (fun v wr => ∃ i : Nat, i ≤ na ∧ v = .int .i64 i ∧ Below w.heap.size w wr ∧ Hid (∀ j, j < i → xs[j]? = ys[j]?)) (fun v _ => na - (intOf v).toNat)
    case atStart => exact ⟨0, Nat.zero_le _, rfl, Below.refl _ _, fun j hj => absurd hj (by omega)⟩
    case round =>
      obtain ⟨i, hi, rfl, hQ, hE⟩ := hrel
      by_cases hik : i < na
      · obtain ⟨b, off, rfl, hc⟩ := (HA.out.below hQ).hrd (by omega)
        obtain ⟨b', off', rfl, hc'⟩ := (HB.out.below hQ).hrd (by omega)
        obtain ⟨c0, c1⟩ := hc i (by omega)
        obtain ⟨d0, d1⟩ := hc' i (by omega)
        have kx := hide (at_key (xs := xs) (i := i) (by rw [HLA.out]; omega))
        have ky := hide (at_key (xs := ys) (i := i) (by rw [HLB.out]; omega))
        generalize xs.getD i (0, ByteArray.empty) = X at c0 c1 kx
        generalize ys.getD i (0, ByteArray.empty) = Y at d0 d1 ky
        obtain ⟨tx, sx⟩ := X
        obtain ⟨ty, sy⟩ := Y
        simp only [] at c0 c1 d0 d1
        clear hc hc'
        have jk : (i : Int) < (na : Int) := by omega
        have hD := hQ.drew
        by_cases he : tx = ty ∧ sx = sy
        · obtain ⟨rfl, rfl⟩ := he
          have hE' : Hid (∀ j, j < i + 1 → xs[j]? = ys[j]?) := fun j hj => by
            by_cases h : j < i
            · exact hE.out j h
            · obtain rfl : j = i := by omega
              rw [kx.out, ky.out]
          have e1 : (tx != tx) = false := by simp
          have e2 : (sx.toList == sx.toList) = true := by simp
          go_wp2_with fail
          go_region_held3 (fun W => W.cell? ⟨b, off + i * 2, none⟩ = some (.int .i64 tx) ∧ W.cell? ⟨b, off + i * 2 + 1, none⟩ = some (.string sx) ∧ W.cell? ⟨b', off' + i * 2, none⟩ = some (.int .i64 tx) ∧ W.cell? ⟨b', off' + i * 2 + 1, none⟩ = some (.string sx)) (go_keep) (fail)
          all_goals
            go_wp2
            go_roundw
            case rel => exact ⟨i + 1, by omega, by go_num, hD, hE'⟩
            case measure => simp [intOf]; omega
        · have hne : Hid (decide (xs = ys) = false) := by
            unfold Hid
            rw [decide_eq_false_iff_not]
            intro h
            subst h
            have h9 := kx.out.symm.trans ky.out
            simp at h9
            exact he h9
          have hx : tx ≠ ty ∨ (tx = ty ∧ sx ≠ sy) := by
            by_cases h : tx = ty
            · exact .inr ⟨h, fun h2 => he ⟨h, h2⟩⟩
            · exact .inl h
          clear he
          rcases hx with h1 | ⟨rfl, h2⟩
          · have e1 : (tx != ty) = true := by simpa using h1
            go_wp2_with fail
            go_quiet (fail)
            go_wp2
            try simp only [Exit.noGoto_ret]
            go_ret
            exact ⟨by rw [hne.out]; rfl, by exact ⟨hQ.os, hQ.tape, hQ.output, hQ.size, hQ.block⟩⟩
          · have e1 : (tx != tx) = false := by simp
            have e2 := bs_ne h2
            go_wp2_with fail
            go_region_held3 (fun W => W.cell? ⟨b, off + i * 2, none⟩ = some (.int .i64 tx) ∧ W.cell? ⟨b, off + i * 2 + 1, none⟩ = some (.string sx) ∧ W.cell? ⟨b', off' + i * 2, none⟩ = some (.int .i64 tx) ∧ W.cell? ⟨b', off' + i * 2 + 1, none⟩ = some (.string sy)) (go_keep) (fail)
            all_goals
              go_wp2
              try simp only [Exit.noGoto_ret]
              go_ret
              exact ⟨by rw [hne.out]; rfl, hD⟩
      · obtain rfl : i = na := by omega
        have jk : ¬ (i : Int) < (i : Int) := by omega
        have hyes : Hid (decide (xs = ys) = true) := by
          unfold Hid
          rw [decide_eq_true_iff]
          exact at_all (by rw [HLA.out, HLB.out]) (fun j hj => hE.out j (by rw [HLA.out] at hj; exact hj))
        go_wp2
        try simp only [Exit.noGoto_ret]
        go_ret
        exact ⟨by rw [hyes.out]; rfl, hQ⟩
  · have hne : Hid (decide (xs = ys) = false) := by
      unfold Hid
      rw [decide_eq_false_iff_not]
      intro h
      subst h
      omega
    have hnn : ((na : Int) != (nb : Int)) = true := by simpa using (show ¬ (na : Int) = (nb : Int) by omega)
    clear hla hlb a1 a2 b1 b2 hA hB
    go_enter Try.func16, Try.ntmps16
    go_wp2
    try simp only [Exit.noGoto_ret]
    go_ret
    exact ⟨by rw [hne.out]; rfl, Below.refl _ _⟩

end Go.Proofs.Ytgbbgfjamneioaa
