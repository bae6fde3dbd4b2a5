/-
  The texts of attributes: labels, marks. Contracts of name.marked and name.told.
-/
import Derived.Laws.MakeOwn
import Derived.Test.YtgbbgfjamneioaaDoorZNmEncN
import Derived.Test.YtgbbgfjamneioaaDoorZNmRMay
import Derived.Test.YtgbbgfjamneioaaDoorZTxF1
namespace Go.Proofs.YtgbbgfjamneioaaDoor
open Go.RowKit Go.IntWalk Go.Shelf

def spB (x : UInt8) : Bool := x == 44 || x == 92
def markU : List UInt8 → List UInt8
  | [] => []
  | x :: r => if spB x = true then 92 :: x :: markU r else x :: markU r
def mkS (s : ByteArray) : ByteArray := ⟨(markU s.data.toList).toArray⟩
def tldS (x : Int × ByteArray) : ByteArray := labS x.1 ++ ⟨#[61]⟩ ++ mkS x.2
def tldU (x : Int × ByteArray) : List UInt8 := (tldS x).data.toList
def txU (n : List (Int × ByteArray)) : List UInt8 := Lib.join (n.map tldU) [44]
def txT (n : List (Int × ByteArray)) : ByteArray := if nameL n = true then ⟨(txU n).toArray⟩ else ⟨#[]⟩

theorem markU_app : ∀ a b, markU (a ++ b) = markU a ++ markU b
  | [], _ => rfl
  | x :: a, b => by
    rw [List.cons_append, markU, markU, markU_app a b]
    split <;> rfl
theorem markU_len : ∀ l, (markU l).length ≤ 2 * l.length
  | [] => Nat.le_refl _
  | x :: r => by
    have := markU_len r
    rw [markU]
    split <;> (simp only [List.length_cons]; omega)
theorem markU_snoc (l : List UInt8) (k : Nat) (h : k < l.length) : markU (l.take (k + 1)) = markU (l.take k) ++ (if spB (l.getD k 0) = true then [92, l.getD k 0] else [l.getD k 0]) := by
  have e : l.take (k + 1) = l.take k ++ [l.getD k 0] := by
    rw [List.take_add_one]
    simp [List.getD, List.getElem?_eq_getElem h]
  rw [e, markU_app]
  congr 1
theorem get_bs (s : ByteArray) (k : Nat) (h : k < s.size) : s[k]'h = s.data.toList.getD k 0 := by
  have h2 : k < s.data.toList.length := by rw [Array.length_toList]; exact h
  rw [List.getD, List.getElem?_eq_getElem h2]
  rfl
theorem nums_app (a b : List UInt8) : nums (a ++ b) = nums a ++ nums b := by unfold nums; rw [List.map_append]
theorem labS_len (t : Int) : (labS t).size ≤ 2 := by
  unfold labS
  (repeat' split) <;> decide
theorem mkS_len (s : ByteArray) : (mkS s).size ≤ 2 * s.size := markU_len s.data.toList
theorem bs_app_len (a b : ByteArray) : (a ++ b).size = a.size + b.size := ByteArray.size_append

set_option maxRecDepth 100000 in
set_option maxHeartbeats 2000000 in
theorem marked_any (s : ByteArray) (hs : s.size ≤ 1048576) (w : World) :
    Calls Tryd.prog 52 #[.string s] w fun e w' => e = .returned (.string (mkS s)) ∧ Below w.heap.size w w' := by
  obtain ⟨i0, hi, hz0, hz1, hz2⟩ := info_parts Tryd.infoB
  obtain ⟨wm, hmk, hown, hgm⟩ := run_make_own (P := Tryd.prog) (w := w) w.heap.size 25 5 i0 (.int .u8 0) 1 Tryd.underlying25 hi hz0 hz1 .i64 .i64 s.size (by rw [hz2]; omega) (by unfold maxLen; omega) (Nat.le_refl _)
  clear hi hz0 hz1 hz2 i0
  have HO : Hid (OwnB wm w.heap.size (.slice (some ⟨w.heap.size, 0, none⟩) 0 s.size) (nums [])) := hown
  have HG := hide (below_of_grown hgm)
  have hsl : Hid (s.data.toList.length = s.size) := by unfold Hid; rw [Array.length_toList]; rfl
  clear hown hgm
  have hsI : (s.size : Int) ≤ 1048576 := by omega
  go_enter Tryd.func52, Tryd.ntmps52
  go_wp2
  go_loopw [3, 10] (fun v i wr => ∃ (k g m c : Nat), v = .slice (some ⟨g, 0, none⟩) m c ∧ i = .int .i64 k ∧ k ≤ s.size ∧ m ≤ 2 * k ∧ Hid (OwnB wr w.heap.size (.slice (some ⟨g, 0, none⟩) m c) (nums (markU (s.data.toList.take k)))) ∧ Below w.heap.size w wr) (fun _ i _ => s.size - (intOf i).toNat)
  case atStart => exact ⟨0, w.heap.size, 0, s.size, rfl, rfl, Nat.zero_le _, Nat.le_refl _, by simpa [markU] using HO, HG.out⟩
  case round =>
    obtain ⟨k, g, m, c, rfl, rfl, hk, hm, hO, hB⟩ := hrel
    have hBs := hB.size
    by_cases hlt : k < s.size
    · have ltI : (k : Int) < (s.size : Int) := by omega
      have hsn := hide (markU_snoc s.data.toList k (by rw [hsl.out]; exact hlt))
      obtain ⟨x, hx⟩ : ∃ x, (s[k]'hlt) = x := ⟨_, rfl⟩
      have hxd : s.data.toList.getD k 0 = x := by rw [← get_bs s k hlt]; exact hx
      rw [hxd] at hsn
      have hxI : ((s[k]'hlt).toNat : Int) = (x.toNat : Int) := by rw [hx]
      have hx256 := x.toNat_lt
      have hlen := OwnB.eqlen hO.out
      obtain ⟨M, hM⟩ : ∃ M, nums (markU (s.data.toList.take k)) = M := ⟨_, rfl⟩
      rw [hM] at hO hlen
      have HM := hide hM
      have HLN := hide hlen
      obtain ⟨y, hy⟩ : ∃ y : Int, (x.toNat : Int) = y := ⟨_, rfl⟩
      rw [hy] at hxI
      have hy0 : 0 ≤ y ∧ y < 256 := by omega
      have HY := hide hy
      clear hM hlen hxd
      by_cases hsp : spB x = true
      · have HN : Hid (nums (markU (s.data.toList.take (k + 1))) = M ++ [92] ++ [y]) := by
          unfold Hid
          rw [hsn.out, if_pos hsp, nums_app, HM.out, ← HY.out, List.append_assoc]
          rfl
        have hc : (y == 44) = true ∨ ((y == 44) = false ∧ (y == 92) = true) := by
          unfold spB at hsp
          simp only [Bool.or_eq_true, beq_iff_eq] at hsp
          by_cases h44 : x = 44
          · left; subst h44; rw [← HY.out]; rfl
          · right
            rcases hsp with h | h
            · exact absurd h h44
            · subst h; rw [← HY.out]; exact ⟨rfl, rfl⟩
        clear hsp hsn hx hy
        rcases hc with c1 | ⟨c1, c2⟩
        · go_wp2_with (first | (at_builtin; refine wpList_appN _ rfl (.tmp 23) (.tmp 24) rfl w.heap.size (.slice (some ⟨g, 0, none⟩) m c) M rfl (hO.out.alloc _) (some ⟨wr.heap.size, 0, none⟩) 1 1 [92] rfl (Src.lit [92] _ 1 rfl rfl (by simp) (by decide)) (m + 1) (by rw [List.length_append, ← HLN.out]; rfl) (.inr (by simp)) (by omega) (by simp; omega) ?_; intro g4 c4 w4 ho4 hb4 hl4 hc4 hm4 hg4) | (at_builtin; refine wpList_appN _ rfl (.tmp 26) (.tmp 30) rfl w.heap.size (.slice (some ⟨g4, 0, none⟩) (m + 1) c4) (M ++ [92]) rfl (ho4.alloc _) (some ⟨w4.heap.size, 0, none⟩) 1 1 [y] rfl (Src.lit [y] _ 1 rfl rfl (by simp; exact hy0) (by decide)) (m + 2) (by rw [List.length_append, List.length_append, ← HLN.out]; rfl) (.inr (by simp)) (by omega) (by simp; omega) ?_; intro g5 c5 w5 ho5 hb5 hl5 hc5 hm5 hg5))
          have hB4 : Below w.heap.size w w4 := (hB.alloc (by omega) _).grown hg4 (by simp; omega) (by intro q hq; cases hq; exact (OwnB.lt hO.out g rfl).1)
          have hB5 : Below w.heap.size w w5 := (hB4.alloc (by have := hB4.size; omega) _).grown hg5 (by have := hB4.size; simp; omega) (by intro q hq; cases hq; exact hb4)
          go_roundw
          case rel => exact ⟨k + 1, g5, m + 2, c5, rfl, by go_num, by omega, by omega, by rw [HN.out]; exact ho5, hB5⟩
          case measure => simp [intOf]; omega
        · go_wp2_with (first | (at_builtin; refine wpList_appN _ rfl (.tmp 23) (.tmp 24) rfl w.heap.size (.slice (some ⟨g, 0, none⟩) m c) M rfl (hO.out.alloc _) (some ⟨wr.heap.size, 0, none⟩) 1 1 [92] rfl (Src.lit [92] _ 1 rfl rfl (by simp) (by decide)) (m + 1) (by rw [List.length_append, ← HLN.out]; rfl) (.inr (by simp)) (by omega) (by simp; omega) ?_; intro g4 c4 w4 ho4 hb4 hl4 hc4 hm4 hg4) | (at_builtin; refine wpList_appN _ rfl (.tmp 26) (.tmp 30) rfl w.heap.size (.slice (some ⟨g4, 0, none⟩) (m + 1) c4) (M ++ [92]) rfl (ho4.alloc _) (some ⟨w4.heap.size, 0, none⟩) 1 1 [y] rfl (Src.lit [y] _ 1 rfl rfl (by simp; exact hy0) (by decide)) (m + 2) (by rw [List.length_append, List.length_append, ← HLN.out]; rfl) (.inr (by simp)) (by omega) (by simp; omega) ?_; intro g5 c5 w5 ho5 hb5 hl5 hc5 hm5 hg5))
          have hB4 : Below w.heap.size w w4 := (hB.alloc (by omega) _).grown hg4 (by simp; omega) (by intro q hq; cases hq; exact (OwnB.lt hO.out g rfl).1)
          have hB5 : Below w.heap.size w w5 := (hB4.alloc (by have := hB4.size; omega) _).grown hg5 (by have := hB4.size; simp; omega) (by intro q hq; cases hq; exact hb4)
          go_roundw
          case rel => exact ⟨k + 1, g5, m + 2, c5, rfl, by go_num, by omega, by omega, by rw [HN.out]; exact ho5, hB5⟩
          case measure => simp [intOf]; omega
      · have HN : Hid (nums (markU (s.data.toList.take (k + 1))) = M ++ [y]) := by
          unfold Hid
          rw [hsn.out, if_neg hsp, nums_app, HM.out, ← HY.out]
          rfl
        have hc : (y == 44) = false ∧ (y == 92) = false := by
          unfold spB at hsp
          simp only [Bool.or_eq_true, beq_iff_eq, not_or] at hsp
          rw [← HY.out]
          refine ⟨beq_eq_false_iff_ne.2 (fun e => hsp.1 ?_), beq_eq_false_iff_ne.2 (fun e => hsp.2 ?_)⟩
          · apply UInt8.toNat_inj.1; show x.toNat = 44; omega
          · apply UInt8.toNat_inj.1; show x.toNat = 92; omega
        obtain ⟨c1, c2⟩ := hc
        clear hsp hsn hx hy
        go_wp2_with (at_builtin; refine wpList_appN _ rfl (.tmp 26) (.tmp 30) rfl w.heap.size (.slice (some ⟨g, 0, none⟩) m c) M rfl (hO.out.alloc _) (some ⟨wr.heap.size, 0, none⟩) 1 1 [y] rfl (Src.lit [y] _ 1 rfl rfl (by simp; exact hy0) (by decide)) (m + 1) (by rw [List.length_append, ← HLN.out]; rfl) (.inr (by simp)) (by omega) (by simp; omega) ?_; intro g4 c4 w4 ho4 hb4 hl4 hc4 hm4 hg4)
        have hB4 : Below w.heap.size w w4 := (hB.alloc (by omega) _).grown hg4 (by simp; omega) (by intro q hq; cases hq; exact (OwnB.lt hO.out g rfl).1)
        go_roundw
        case rel => exact ⟨k + 1, g4, m + 1, c4, rfl, by go_num, by omega, by omega, by rw [HN.out]; exact ho4, hB4⟩
        case measure => simp [intOf]; omega
    · obtain rfl : k = s.size := by omega
      have nI : ¬ ((s.size : Int) < (s.size : Int)) := by omega
      have hall : s.data.toList.take s.size = s.data.toList := List.take_of_length_le (by rw [hsl.out]; exact Nat.le_refl _)
      rw [hall] at hO
      have ht := (OwnB.toSrc hO.out (nums_byte _)).text
      rw [nums_text] at ht
      clear hall
      go_wp2
      go_ret
      exact ⟨rfl, hB⟩

end Go.Proofs.YtgbbgfjamneioaaDoor
