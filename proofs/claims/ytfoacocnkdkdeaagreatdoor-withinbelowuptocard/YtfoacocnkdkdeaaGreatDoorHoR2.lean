/-
  The document's host: Labels as a row of texts.
-/
import Derived.Test.YtfoacocnkdkdeaaGreatDoorHoR
namespace Go.Proofs.YtfoacocnkdkdeaaGreatDoor
open Go.RowKit Go.IntWalk

/-- Rows of bytes as texts. -/
def txs (ws : List (List UInt8)) : List ByteArray := ws.map tx
theorem txs_more (ws : List (List UInt8)) (u : List UInt8) : txs (ws ++ [u]) = txs ws ++ [tx u] := by simp [txs]
theorem txs_len (ws : List (List UInt8)) : (txs ws).length = ws.length := by simp [txs]

def cutH (l : List UInt8) (a b : Nat) : List UInt8 := (l.take b).drop a
theorem cutH_len (l : List UInt8) (a b : Nat) (hb : b ≤ l.length) : (cutH l a b).length = b - a := by unfold cutH; rw [List.length_drop, List.length_take]; omega
theorem cutH_more (l : List UInt8) (a k : Nat) (h : a ≤ k) (hk : k < l.length) : cutH l a (k + 1) = cutH l a k ++ [l[k]'hk] := by
  unfold cutH
  rw [List.take_succ_eq_append_getElem hk, List.drop_append_of_le_length (by rw [List.length_take]; omega)]
theorem cut_textH (s : ByteArray) (a b : Nat) : s.extract a b = tx (cutH s.data.toList a b) := by
  apply ByteArray.ext
  rw [ByteArray.data_extract]
  apply Array.ext'
  rw [Array.toList_extract]
  unfold cutH tx
  rw [List.drop_take]

/-- What has been told of the labels, and what is left. -/
def LRel (l : List UInt8) (ws : List (List UInt8)) (a k : Nat) : Prop := labs l = ws ++ labsG (cutH l a k) (l.drop k)
theorem lrel_start (l : List UInt8) : LRel l [] 0 0 := by unfold LRel labs cutH; simp
theorem lrel_dot (l : List UInt8) (ws : List (List UInt8)) (a k : Nat) (h : LRel l ws a k) (hk : k < l.length) (hd : l[k]'hk = 46) : LRel l (ws ++ [cutH l a k]) (k + 1) (k + 1) := by
  unfold LRel at h ⊢
  rw [h, List.drop_eq_getElem_cons hk, labsG, if_pos hd]
  have e : cutH l (k + 1) (k + 1) = [] := by unfold cutH; simp
  rw [e]
  simp
theorem lrel_byte (l : List UInt8) (ws : List (List UInt8)) (a k : Nat) (h : LRel l ws a k) (hak : a ≤ k) (hk : k < l.length) (hd : l[k]'hk ≠ 46) : LRel l ws a (k + 1) := by
  unfold LRel at h ⊢
  rw [h, List.drop_eq_getElem_cons hk, labsG, if_neg hd, cutH_more l a k hak hk]
theorem lrel_end (l : List UInt8) (ws : List (List UInt8)) (a : Nat) (h : LRel l ws a l.length) : labs l = ws ++ [cutH l a l.length] := by
  unfold LRel at h
  rw [h, List.drop_length, labsG]

set_option maxRecDepth 100000 in
set_option maxHeartbeats 2000000 in
theorem refLabels_any (s : ByteArray) (hs : s.size ≤ 1048576) (w : World) :
    Calls Tryz.prog 29 #[.string s] w fun e w' => ∃ ao c, e = .returned (.slice ao (labs s.data.toList).length c) ∧ OwnS w' w.heap.size (.slice ao (labs s.data.toList).length c) (txs (labs s.data.toList)) ∧ Below w.heap.size w w' := by
  have hSL := size_len s
  go_enter Tryz.func29, Tryz.ntmps29
  go_wp2
  go_loopw [3, 4, 5] (fun l f i wr => ∃ (ws : List (List UInt8)) (ao : Option Addr) (c a k : Nat), l = .slice ao ws.length c ∧ f = .int .i64 a ∧ i = .int .i64 k ∧ a ≤ k ∧ k ≤ s.size ∧ ws.length ≤ k ∧ Hid (OwnS wr w.heap.size (.slice ao ws.length c) (txs ws) ∧ Below w.heap.size w wr) ∧ Hid (LRel s.data.toList ws a k)) (fun _ _ i _ => s.size - (intOf i).toNat)
  case atStart => exact ⟨[], none, 0, 0, 0, rfl, rfl, rfl, Nat.le_refl _, Nat.zero_le _, Nat.le_refl _, ⟨OwnS.nil _ _, Below.refl _ _⟩, lrel_start _⟩
  case round =>
    obtain ⟨ws, ao, c, a, k, rfl, rfl, rfl, hak, hk, hwk, HO, HW⟩ := hrel
    have htl := hide (txs_len ws)
    by_cases hlt : k < s.size
    · have ltI : (k : Int) < (s.size : Int) := by omega
      have hl : k < s.data.toList.length := by rw [size_len]; exact hlt
      by_cases hd : (s[k]'hlt) = 46
      · have hd' : ((s[k]'hlt).toNat : Int) = 46 := by rw [hd]; rfl
        have hn := hide (lrel_dot s.data.toList ws a k HW.out hl (by rw [get_list s k hlt]; exact hd))
        have sl : ∀ X, (Instr.slice 9 (.string s) (some (.int .i64 (a : Int))) (some (.int .i64 (k : Int))) none).run Tryz.prog X = .ok (.string (tx (cutH s.data.toList a k))) X := fun X => by
          have h := run_slice_string (P := Tryz.prog) (w := X) 9 s .i64 .i64 (a : Int) (k : Int) Tryz.underlying9 (by omega) (by omega) (by omega)
          rw [h, ← cut_textH]; simp
        generalize cutH s.data.toList a k = u at hn sl
        clear hd hl HW
        go_wp2_with (at_builtin; refine wpList_appS _ rfl (.tmp 16) (.tmp 21) rfl w.heap.size _ (txs ws) rfl (HO.out.1.alloc _) wr.heap.size (tx u) rfl (by simp) (ws.length + 1) (by rw [htl.out]) (by omega) (by have := HO.out.2.size; simp; omega) ?_; intro g c' w1 o1 bg lg hc1 hm1 gr1)
        have HO1 : Hid (OwnS w1 w.heap.size (.slice (some ⟨g, 0, none⟩) (ws ++ [u]).length c') (txs (ws ++ [u])) ∧ Below w.heap.size w w1) := by
          unfold Hid
          rw [txs_more]
          have e : (ws ++ [u]).length = ws.length + 1 := by simp
          rw [e]
          exact ⟨o1, (HO.out.2.alloc HO.out.2.size _).grown gr1 (by have := HO.out.2.size; simp; omega) (fun j hj => (HO.out.1.lt j hj).1)⟩
        go_roundw
        case rel => exact ⟨ws ++ [u], some ⟨g, 0, none⟩, c', k + 1, k + 1, by simp, by simp, by simp, Nat.le_refl _, by omega, by simp; omega, HO1, hn⟩
        case measure => simp [intOf] <;> omega
      · have hd' : (((s[k]'hlt).toNat : Int) == 46) = false := by
          rw [beq_eq_false_iff_ne]
          intro e
          apply hd
          apply UInt8.toNat_inj.1
          show (s[k]'hlt).toNat = 46
          omega
        have hn := hide (lrel_byte s.data.toList ws a k HW.out hak hl (by rw [get_list s k hlt]; exact hd))
        clear hd hl HW
        go_wp2
        go_roundw
        case rel => exact ⟨ws, ao, c, a, k + 1, rfl, rfl, by simp, by omega, by omega, by omega, HO, hn⟩
        case measure => simp [intOf] <;> omega
    · obtain rfl : k = s.size := by omega
      have ltI : ¬ (s.size : Int) < (s.size : Int) := by omega
      have hr := HW.out
      rw [← hSL] at hr
      have he := hide (lrel_end s.data.toList ws a hr)
      clear hr
      have sl : ∀ X, (Instr.slice 9 (.string s) (some (.int .i64 (a : Int))) none none).run Tryz.prog X = .ok (.string (tx (cutH s.data.toList a s.data.toList.length))) X := fun X => by
        have h := run_slice_string_from_if (P := Tryz.prog) (w := X) 9 s .i64 (a : Int) Tryz.underlying9
        rw [h, if_pos (by omega), ← cut_textH, hSL]; simp
      generalize cutH s.data.toList a s.data.toList.length = u at he sl
      go_wp2_with (at_builtin; refine wpList_appS _ rfl (.tmp 25) (.tmp 29) rfl w.heap.size _ (txs ws) rfl (HO.out.1.alloc _) wr.heap.size (tx u) rfl (by simp) (ws.length + 1) (by rw [htl.out]) (by omega) (by have := HO.out.2.size; simp; omega) ?_; intro g c' w1 o1 bg lg hc1 hm1 gr1)
      go_ret
      have e : (labs s.data.toList).length = ws.length + 1 := by rw [he.out]; simp
      refine ⟨some ⟨g, 0, none⟩, c', by rw [e]; rfl, ?_, (HO.out.2.alloc HO.out.2.size _).grown gr1 (by have := HO.out.2.size; simp; omega) (fun j hj => (HO.out.1.lt j hj).1)⟩
      rw [e, he.out, txs_more]
      exact o1

end Go.Proofs.YtfoacocnkdkdeaaGreatDoor
