/-
  The document's Words: the words of a text, as a row.
-/
import Derived.Test.YtclimigbbilfmaaTxS
import Derived.Test.YtclimigbbilfmaaTxW1
namespace Go.Proofs.Ytclimigbbilfmaa
open Go.RowKit Go.IntWalk

/-- Words as texts. -/
def texts (ws : List (List UInt8)) : List ByteArray := ws.map (fun u => ⟨u.toArray⟩)

/-- What has been told of the words, and what is left. -/
def WRel (l : List UInt8) (ws : List (List UInt8)) (a k : Nat) : Prop := (k ≤ l.length → wordsL l = ws ++ wordsG (cutL l a k) (l.drop k)) ∧ (l.length < k → wordsL l = ws)

theorem wrel_start (l : List UInt8) : WRel l [] 0 0 := ⟨fun _ => words_begin l, fun h => by omega⟩

theorem wrel_end (l : List UInt8) (ws : List (List UInt8)) (a k : Nat) (h : WRel l ws a k) (hk : l.length < k) : wordsL l = ws := h.2 hk

theorem wrel_step (l : List UInt8) (ws : List (List UInt8)) (a k : Nat) (h : WRel l ws a k) (hak : a ≤ k) (hk : k < l.length) (hb : l[k]'hk ≠ 32) : WRel l ws a (k + 1) := by
  refine ⟨fun _ => ?_, fun h => by omega⟩
  rw [h.1 (by omega), words_step l a k 1 hak (by omega) ?_]
  intro b hb2
  have e : (l.drop k).take 1 = [l[k]'hk] := by rw [List.drop_eq_getElem_cons hk]; rfl
  rw [e] at hb2
  have hb3 := List.mem_singleton.1 hb2
  subst hb3
  exact hb

theorem wrel_empty (l : List UInt8) (ws : List (List UInt8)) (a k : Nat) (h : WRel l ws a k) (hk : k ≤ l.length) (e : a = k) (hs : k = l.length ∨ ∃ h : k < l.length, l[k]'h = 32) : WRel l ws (k + 1) (k + 1) := by
  subst e
  rcases hs with hs | ⟨hlt, hs⟩
  · subst hs
    refine ⟨fun h => by omega, fun _ => ?_⟩
    rw [h.1 (Nat.le_refl _), words_end l _ (Nat.le_refl _), if_pos rfl, List.append_nil]
  · refine ⟨fun _ => ?_, fun h => by omega⟩
    rw [h.1 hk, words_blank l a a hlt hs (Nat.le_refl _), if_pos rfl]

theorem wrel_word (l : List UInt8) (ws : List (List UInt8)) (a k : Nat) (h : WRel l ws a k) (hk : k ≤ l.length) (e : a < k) (hs : k = l.length ∨ ∃ h : k < l.length, l[k]'h = 32) : WRel l (ws ++ [cutL l a k]) (k + 1) (k + 1) := by
  rcases hs with hs | ⟨hlt, hs⟩
  · subst hs
    refine ⟨fun h => by omega, fun _ => ?_⟩
    rw [h.1 (Nat.le_refl _), words_end l _ (by omega), if_neg (by omega)]
  · refine ⟨fun _ => ?_, fun h => by omega⟩
    rw [h.1 hk, words_blank l a k hlt hs (by omega), if_neg (by omega), List.append_assoc]
    rfl

theorem stop_list (s : ByteArray) (k : Nat) (h : k = s.size ∨ ∃ h : k < s.size, (s[k]'h) = 32) : k = s.data.toList.length ∨ ∃ h : k < s.data.toList.length, s.data.toList[k]'h = 32 := by
  rcases h with h | ⟨h, e⟩
  · left; rw [size_len]; exact h
  · right; exact ⟨by rw [size_len]; exact h, by rw [get_list s k h]; exact e⟩

theorem texts_more (ws : List (List UInt8)) (u : List UInt8) : texts (ws ++ [u]) = texts ws ++ [⟨u.toArray⟩] := by simp [texts]

set_option maxRecDepth 100000 in
set_option maxHeartbeats 2000000 in
theorem refWords_any (s : ByteArray) (hs : s.size ≤ 1048576) (w : World) :
    Calls Try.prog 45 #[.string s] w fun e w' => ∃ ao c, e = .returned (.slice ao (wordsL s.data.toList).length c) ∧ OwnS w' w.heap.size (.slice ao (wordsL s.data.toList).length c) (texts (wordsL s.data.toList)) ∧ Below w.heap.size w w' := by
  go_enter Try.func45, Try.ntmps45
  have hSL := size_len s
  go_wp2
  go_loopw [3, 4, 5] (fun l f i wr => ∃ (ws : List (List UInt8)) (ao : Option Addr) (c a k : Nat), l = .slice ao ws.length c ∧ f = .int .i64 a ∧ i = .int .i64 k ∧ a ≤ k ∧ k ≤ s.size + 1 ∧ ws.length ≤ k ∧ Hid (OwnS wr w.heap.size (.slice ao ws.length c) (texts ws) ∧ Below w.heap.size w wr) ∧ Hid (WRel s.data.toList ws a k)) (fun _ _ i _ => s.size + 1 - (intOf i).toNat)
  case atStart => exact ⟨[], none, 0, 0, 0, rfl, rfl, rfl, Nat.le_refl _, by omega, Nat.le_refl _, ⟨OwnS.nil _ _, Below.refl _ _⟩, wrel_start _⟩
  case round =>
    obtain ⟨ws, ao, c, a, k, rfl, rfl, rfl, hak, hk, hwk, HO, HW⟩ := hrel
    by_cases hle : k ≤ s.size
    · have leI : (k : Int) ≤ (s.size : Int) := by omega
      by_cases hstop : k = s.size ∨ ∃ h : k < s.size, (s[k]'h) = 32
      · have hb : Hid (a = k → WRel s.data.toList ws (k + 1) (k + 1)) := fun e => wrel_empty s.data.toList ws a k HW.out (by omega) e (stop_list s k hstop)
        have hw : Hid (a < k → WRel s.data.toList (ws ++ [cutL s.data.toList a k]) (k + 1) (k + 1)) := fun e => wrel_word s.data.toList ws a k HW.out (by omega) e (stop_list s k hstop)
        have sl : ∀ X, (Instr.slice 9 (.string s) (some (.int .i64 (a : Int))) (some (.int .i64 (k : Int))) none).run Try.prog X = .ok (.string ⟨(cutL s.data.toList a k).toArray⟩) X := fun X => by
          have h := run_slice_string (P := Try.prog) (w := X) 9 s .i64 .i64 (a : Int) (k : Int) Try.underlying9 (by omega) (by omega) (by omega)
          rw [h, ← cut_text]; simp
        generalize cutL s.data.toList a k = u at hw sl
        by_cases hend : k = s.size
        · subst hend
          clear hstop
          by_cases hlt : a < s.size
          · have hn := hide (hw.out hlt)
            have ltI : (a : Int) < (s.size : Int) := by omega
            have htl : (texts ws).length = ws.length := by simp [texts]
            have htl := hide htl
            clear hb hw HW
            go_wp2_with (at_builtin; refine wpList_appS _ rfl (.tmp 25) (.tmp 30) rfl w.heap.size _ (texts ws) rfl (HO.out.1.alloc _) wr.heap.size ⟨u.toArray⟩ rfl (by simp) (ws.length + 1) (by rw [htl.out]) (by omega) (by have := HO.out.2.size; simp; omega) ?_; intro g c' w1 o1 bg lg hc1 hm1 gr1)
            have HO1 : Hid (OwnS w1 w.heap.size (.slice (some ⟨g, 0, none⟩) (ws ++ [u]).length c') (texts (ws ++ [u])) ∧ Below w.heap.size w w1) := by
              unfold Hid
              rw [texts_more]
              have e : (ws ++ [u]).length = ws.length + 1 := by simp
              rw [e]
              exact ⟨o1, (HO.out.2.alloc HO.out.2.size _).grown gr1 (by have := HO.out.2.size; simp; omega) (fun j hj => (HO.out.1.lt j hj).1)⟩
            go_roundw
            case rel => exact ⟨ws ++ [u], some ⟨g, 0, none⟩, c', s.size + 1, s.size + 1, by simp, by simp, by simp, Nat.le_refl _, by omega, by simp; omega, HO1, hn⟩
            case measure => simp [intOf] <;> omega
          · have hn := hide (hb.out (by omega))
            have ltI : ¬ (a : Int) < (s.size : Int) := by omega
            clear hb hw HW
            go_wp2
            go_roundw
            case rel => exact ⟨ws, ao, c, s.size + 1, s.size + 1, rfl, by simp, by simp, Nat.le_refl _, by omega, by omega, HO, hn⟩
            case measure => simp [intOf] <;> omega
        · have hltN : k < s.size := by omega
          have h32 : (s[k]'hltN) = 32 := by
            rcases hstop with h | ⟨_, h⟩
            · exact absurd h hend
            · exact h
          have hq : ((k : Int) == (s.size : Int)) = false := by simp; omega
          have h32' : ((s[k]'hltN).toNat : Int) = 32 := by rw [h32]; rfl
          clear hend hstop h32
          by_cases hlt : a < k
          · have hn := hide (hw.out hlt)
            have ltI : (a : Int) < (k : Int) := by omega
            have htl : (texts ws).length = ws.length := by simp [texts]
            have htl := hide htl
            clear hb hw HW
            go_wp2_with (at_builtin; refine wpList_appS _ rfl (.tmp 25) (.tmp 30) rfl w.heap.size _ (texts ws) rfl (HO.out.1.alloc _) wr.heap.size ⟨u.toArray⟩ rfl (by simp) (ws.length + 1) (by rw [htl.out]) (by omega) (by have := HO.out.2.size; simp; omega) ?_; intro g c' w1 o1 bg lg hc1 hm1 gr1)
            have HO1 : Hid (OwnS w1 w.heap.size (.slice (some ⟨g, 0, none⟩) (ws ++ [u]).length c') (texts (ws ++ [u])) ∧ Below w.heap.size w w1) := by
              unfold Hid
              rw [texts_more]
              have e : (ws ++ [u]).length = ws.length + 1 := by simp
              rw [e]
              exact ⟨o1, (HO.out.2.alloc HO.out.2.size _).grown gr1 (by have := HO.out.2.size; simp; omega) (fun j hj => (HO.out.1.lt j hj).1)⟩
            go_roundw
            case rel => exact ⟨ws ++ [u], some ⟨g, 0, none⟩, c', k + 1, k + 1, by simp, by simp, by simp, Nat.le_refl _, by omega, by simp; omega, HO1, hn⟩
            case measure => simp [intOf] <;> omega
          · have hn := hide (hb.out (by omega))
            have ltI : ¬ (a : Int) < (k : Int) := by omega
            clear hb hw HW
            go_wp2
            go_roundw
            case rel => exact ⟨ws, ao, c, k + 1, k + 1, rfl, by simp, by simp, Nat.le_refl _, by omega, by omega, HO, hn⟩
            case measure => simp [intOf] <;> omega
      · have hltN : k < s.size := by
          rcases Nat.lt_or_ge k s.size with h | h
          · exact h
          · exact absurd (.inl (by omega)) hstop
        have hne : (s[k]'hltN) ≠ 32 := fun e => hstop (.inr ⟨hltN, e⟩)
        have hn : Hid (WRel s.data.toList ws a (k + 1)) := wrel_step s.data.toList ws a k HW.out hak (by omega) (by rw [get_list s k hltN]; exact hne)
        have hq : ((k : Int) == (s.size : Int)) = false := by simp; omega
        have hne' : (((s[k]'hltN).toNat : Int) == 32) = false := by
          rw [beq_eq_false_iff_ne]
          intro e
          apply hne
          apply UInt8.toNat_inj.1
          have e2 : (32 : UInt8).toNat = 32 := rfl
          rw [e2]
          omega
        clear hstop hne
        go_wp2
        go_roundw
        case rel => exact ⟨ws, ao, c, a, k + 1, rfl, rfl, by simp, by omega, by omega, by omega, HO, hn⟩
        case measure => simp [intOf] <;> omega
    · obtain rfl : k = s.size + 1 := by omega
      have hF : Hid (wordsL s.data.toList = ws) := wrel_end _ _ _ _ HW.out (by omega)
      have hnI : ¬ ((s.size + 1 : Nat) : Int) ≤ (s.size : Int) := by omega
      go_wp2
      go_ret
      rw [hF.out]
      exact ⟨ao, c, rfl, HO.out.1, HO.out.2⟩

end Go.Proofs.Ytclimigbbilfmaa
