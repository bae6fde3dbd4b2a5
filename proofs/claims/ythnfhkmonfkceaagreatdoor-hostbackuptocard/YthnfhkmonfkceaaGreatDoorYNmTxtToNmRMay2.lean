/-
  The texts of attributes: labels, marks. Contracts of name.marked and name.told.
  Rows of strings that a call owns, and appending one to them.
  The document's put: the bytes of an element.
  The document's May.
-/
import Derived.Laws.MakeOwn
import Derived.Test.YthnfhkmonfkceaaGreatDoorYNmEncNToTxP5
import Derived.Test.YthnfhkmonfkceaaGreatDoorYNmRMay
import Derived.Test.YthnfhkmonfkceaaGreatDoorYTxP4ToSize
import Derived.Test.YthnfhkmonfkceaaGreatDoorYBaseToBts
import Derived.Test.YthnfhkmonfkceaaGreatDoorYItsToNextS
import Derived.Test.YthnfhkmonfkceaaGreatDoorYLenToRMay
namespace Go.Proofs.YthnfhkmonfkceaaGreatDoor
open Go.RowKit Go.IntWalk Go.Shelf

def spB (x : UInt8) : Bool := x == 44 || x == 92
def markU : List UInt8 → List UInt8
  | [] => []
  | x :: r => if spB x = true then 92 :: x :: markU r else x :: markU r
def mkS (s : ByteArray) : ByteArray := ⟨(markU s.data.toList).toArray⟩
def tldS (x : Int × ByteArray) : ByteArray := labS x.1 ++ ⟨#[61]⟩ ++ mkS x.2
def tldU (x : Int × ByteArray) : List UInt8 := (tldS x).data.toList
def txU (n : List (Int × ByteArray)) : List UInt8 := Lib.join (n.map tldU) [44]
def txT (n : List (Int × ByteArray)) : ByteArray := if nameL n = true then ⟨(txU n).toArray⟩ else ⟨#[]⟩

theorem markU_app : ∀ a b, markU (a ++ b) = markU a ++ markU b
  | [], _ => rfl
  | x :: a, b => by
    rw [List.cons_append, markU, markU, markU_app a b]
    split <;> rfl
theorem markU_len : ∀ l, (markU l).length ≤ 2 * l.length
  | [] => Nat.le_refl _
  | x :: r => by
    have := markU_len r
    rw [markU]
    split <;> (simp only [List.length_cons]; omega)
theorem markU_snoc (l : List UInt8) (k : Nat) (h : k < l.length) : markU (l.take (k + 1)) = markU (l.take k) ++ (if spB (l.getD k 0) = true then [92, l.getD k 0] else [l.getD k 0]) := by
  have e : l.take (k + 1) = l.take k ++ [l.getD k 0] := by
    rw [List.take_add_one]
    simp [List.getD, List.getElem?_eq_getElem h]
  rw [e, markU_app]
  congr 1
theorem get_bs (s : ByteArray) (k : Nat) (h : k < s.size) : s[k]'h = s.data.toList.getD k 0 := by
  have h2 : k < s.data.toList.length := by rw [Array.length_toList]; exact h
  rw [List.getD, List.getElem?_eq_getElem h2]
  rfl
theorem nums_app (a b : List UInt8) : nums (a ++ b) = nums a ++ nums b := by unfold nums; rw [List.map_append]
theorem labS_len (t : Int) : (labS t).size ≤ 2 := by
  unfold labS
  (repeat' split) <;> decide
theorem mkS_len (s : ByteArray) : (mkS s).size ≤ 2 * s.size := markU_len s.data.toList
theorem bs_app_len (a b : ByteArray) : (a ++ b).size = a.size + b.size := ByteArray.size_append

set_option maxRecDepth 100000 in
set_option maxHeartbeats 2000000 in
theorem marked_any (s : ByteArray) (hs : s.size ≤ 1048576) (w : World) :
    Calls Tryz.prog 112 #[.string s] w fun e w' => e = .returned (.string (mkS s)) ∧ Below w.heap.size w w' := by
  obtain ⟨i0, hi, hz0, hz1, hz2⟩ := info_parts Tryz.infoB
  obtain ⟨wm, hmk, hown, hgm⟩ := run_make_own (P := Tryz.prog) (w := w) w.heap.size 43 5 i0 (.int .u8 0) 1 Tryz.underlying43 hi hz0 hz1 .i64 .i64 s.size (by rw [hz2]; omega) (by unfold maxLen; omega) (Nat.le_refl _)
  clear hi hz0 hz1 hz2 i0
  have HO : Hid (OwnB wm w.heap.size (.slice (some ⟨w.heap.size, 0, none⟩) 0 s.size) (nums [])) := hown
  have HG := hide (below_of_grown hgm)
  have hsl : Hid (s.data.toList.length = s.size) := by unfold Hid; rw [Array.length_toList]; rfl
  clear hown hgm
  have hsI : (s.size : Int) ≤ 1048576 := by omega
  go_enter Tryz.func112, Tryz.ntmps112
  go_wp2
  go_loopw [3, 10] (fun v i wr => ∃ (k g m c : Nat), v = .slice (some ⟨g, 0, none⟩) m c ∧ i = .int .i64 k ∧ k ≤ s.size ∧ m ≤ 2 * k ∧ Hid (OwnB wr w.heap.size (.slice (some ⟨g, 0, none⟩) m c) (nums (markU (s.data.toList.take k)))) ∧ Below w.heap.size w wr) (fun _ i _ => s.size - (intOf i).toNat)
  case atStart => exact ⟨0, w.heap.size, 0, s.size, rfl, rfl, Nat.zero_le _, Nat.le_refl _, by simpa [markU] using HO, HG.out⟩
  case round =>
    obtain ⟨k, g, m, c, rfl, rfl, hk, hm, hO, hB⟩ := hrel
    have hBs := hB.size
    by_cases hlt : k < s.size
    · have ltI : (k : Int) < (s.size : Int) := by omega
      have hsn := hide (markU_snoc s.data.toList k (by rw [hsl.out]; exact hlt))
      obtain ⟨x, hx⟩ : ∃ x, (s[k]'hlt) = x := ⟨_, rfl⟩
      have hxd : s.data.toList.getD k 0 = x := by rw [← get_bs s k hlt]; exact hx
      rw [hxd] at hsn
      have hxI : ((s[k]'hlt).toNat : Int) = (x.toNat : Int) := by rw [hx]
      have hx256 := x.toNat_lt
      have hlen := OwnB.eqlen hO.out
      obtain ⟨M, hM⟩ : ∃ M, nums (markU (s.data.toList.take k)) = M := ⟨_, rfl⟩
      rw [hM] at hO hlen
      have HM := hide hM
      have HLN := hide hlen
      obtain ⟨y, hy⟩ : ∃ y : Int, (x.toNat : Int) = y := ⟨_, rfl⟩
      rw [hy] at hxI
      have hy0 : 0 ≤ y ∧ y < 256 := by omega
      have HY := hide hy
      clear hM hlen hxd
      by_cases hsp : spB x = true
      · have HN : Hid (nums (markU (s.data.toList.take (k + 1))) = M ++ [92] ++ [y]) := by
          unfold Hid
          rw [hsn.out, if_pos hsp, nums_app, HM.out, ← HY.out, List.append_assoc]
          rfl
        have hc : (y == 44) = true ∨ ((y == 44) = false ∧ (y == 92) = true) := by
          unfold spB at hsp
          simp only [Bool.or_eq_true, beq_iff_eq] at hsp
          by_cases h44 : x = 44
          · left; subst h44; rw [← HY.out]; rfl
          · right
            rcases hsp with h | h
            · exact absurd h h44
            · subst h; rw [← HY.out]; exact ⟨rfl, rfl⟩
        clear hsp hsn hx hy
        rcases hc with c1 | ⟨c1, c2⟩
        · go_wp2_with (first | (at_builtin; refine wpList_appN _ rfl (.tmp 23) (.tmp 24) rfl w.heap.size (.slice (some ⟨g, 0, none⟩) m c) M rfl (hO.out.alloc _) (some ⟨wr.heap.size, 0, none⟩) 1 1 [92] rfl (Src.lit [92] _ 1 rfl rfl (by simp) (by decide)) (m + 1) (by rw [List.length_append, ← HLN.out]; rfl) (.inr (by simp)) (by omega) (by simp; omega) ?_; intro g4 c4 w4 ho4 hb4 hl4 hc4 hm4 hg4) | (at_builtin; refine wpList_appN _ rfl (.tmp 26) (.tmp 30) rfl w.heap.size (.slice (some ⟨g4, 0, none⟩) (m + 1) c4) (M ++ [92]) rfl (ho4.alloc _) (some ⟨w4.heap.size, 0, none⟩) 1 1 [y] rfl (Src.lit [y] _ 1 rfl rfl (by simp; exact hy0) (by decide)) (m + 2) (by rw [List.length_append, List.length_append, ← HLN.out]; rfl) (.inr (by simp)) (by omega) (by simp; omega) ?_; intro g5 c5 w5 ho5 hb5 hl5 hc5 hm5 hg5))
          have hB4 : Below w.heap.size w w4 := (hB.alloc (by omega) _).grown hg4 (by simp; omega) (by intro q hq; cases hq; exact (OwnB.lt hO.out g rfl).1)
          have hB5 : Below w.heap.size w w5 := (hB4.alloc (by have := hB4.size; omega) _).grown hg5 (by have := hB4.size; simp; omega) (by intro q hq; cases hq; exact hb4)
          go_roundw
          case rel => exact ⟨k + 1, g5, m + 2, c5, rfl, by go_num, by omega, by omega, by rw [HN.out]; exact ho5, hB5⟩
          case measure => simp [intOf]; omega
        · go_wp2_with (first | (at_builtin; refine wpList_appN _ rfl (.tmp 23) (.tmp 24) rfl w.heap.size (.slice (some ⟨g, 0, none⟩) m c) M rfl (hO.out.alloc _) (some ⟨wr.heap.size, 0, none⟩) 1 1 [92] rfl (Src.lit [92] _ 1 rfl rfl (by simp) (by decide)) (m + 1) (by rw [List.length_append, ← HLN.out]; rfl) (.inr (by simp)) (by omega) (by simp; omega) ?_; intro g4 c4 w4 ho4 hb4 hl4 hc4 hm4 hg4) | (at_builtin; refine wpList_appN _ rfl (.tmp 26) (.tmp 30) rfl w.heap.size (.slice (some ⟨g4, 0, none⟩) (m + 1) c4) (M ++ [92]) rfl (ho4.alloc _) (some ⟨w4.heap.size, 0, none⟩) 1 1 [y] rfl (Src.lit [y] _ 1 rfl rfl (by simp; exact hy0) (by decide)) (m + 2) (by rw [List.length_append, List.length_append, ← HLN.out]; rfl) (.inr (by simp)) (by omega) (by simp; omega) ?_; intro g5 c5 w5 ho5 hb5 hl5 hc5 hm5 hg5))
          have hB4 : Below w.heap.size w w4 := (hB.alloc (by omega) _).grown hg4 (by simp; omega) (by intro q hq; cases hq; exact (OwnB.lt hO.out g rfl).1)
          have hB5 : Below w.heap.size w w5 := (hB4.alloc (by have := hB4.size; omega) _).grown hg5 (by have := hB4.size; simp; omega) (by intro q hq; cases hq; exact hb4)
          go_roundw
          case rel => exact ⟨k + 1, g5, m + 2, c5, rfl, by go_num, by omega, by omega, by rw [HN.out]; exact ho5, hB5⟩
          case measure => simp [intOf]; omega
      · have HN : Hid (nums (markU (s.data.toList.take (k + 1))) = M ++ [y]) := by
          unfold Hid
          rw [hsn.out, if_neg hsp, nums_app, HM.out, ← HY.out]
          rfl
        have hc : (y == 44) = false ∧ (y == 92) = false := by
          unfold spB at hsp
          simp only [Bool.or_eq_true, beq_iff_eq, not_or] at hsp
          rw [← HY.out]
          refine ⟨beq_eq_false_iff_ne.2 (fun e => hsp.1 ?_), beq_eq_false_iff_ne.2 (fun e => hsp.2 ?_)⟩
          · apply UInt8.toNat_inj.1; show x.toNat = 44; omega
          · apply UInt8.toNat_inj.1; show x.toNat = 92; omega
        obtain ⟨c1, c2⟩ := hc
        clear hsp hsn hx hy
        go_wp2_with (at_builtin; refine wpList_appN _ rfl (.tmp 26) (.tmp 30) rfl w.heap.size (.slice (some ⟨g, 0, none⟩) m c) M rfl (hO.out.alloc _) (some ⟨wr.heap.size, 0, none⟩) 1 1 [y] rfl (Src.lit [y] _ 1 rfl rfl (by simp; exact hy0) (by decide)) (m + 1) (by rw [List.length_append, ← HLN.out]; rfl) (.inr (by simp)) (by omega) (by simp; omega) ?_; intro g4 c4 w4 ho4 hb4 hl4 hc4 hm4 hg4)
        have hB4 : Below w.heap.size w w4 := (hB.alloc (by omega) _).grown hg4 (by simp; omega) (by intro q hq; cases hq; exact (OwnB.lt hO.out g rfl).1)
        go_roundw
        case rel => exact ⟨k + 1, g4, m + 1, c4, rfl, by go_num, by omega, by omega, by rw [HN.out]; exact ho4, hB4⟩
        case measure => simp [intOf]; omega
    · obtain rfl : k = s.size := by omega
      have nI : ¬ ((s.size : Int) < (s.size : Int)) := by omega
      have hall : s.data.toList.take s.size = s.data.toList := List.take_of_length_le (by rw [hsl.out]; exact Nat.le_refl _)
      rw [hall] at hO
      have ht := (OwnB.toSrc hO.out (nums_byte _)).text
      rw [nums_text] at ht
      clear hall
      go_wp2
      go_ret
      exact ⟨rfl, hB⟩

end Go.Proofs.YthnfhkmonfkceaaGreatDoor

namespace Go.Proofs.YthnfhkmonfkceaaGreatDoor
open Go.RowKit Go.IntWalk

theorem Tryz.infoS : (Tryz.prog.info? 9).map (fun i => (i.zero, i.size, i.bytes)) = some (some (.string ⟨#[]⟩), 1, 16) := by kernel_rfl

/-- A row of strings that the call owns. -/
def OwnS (w : World) (base : Nat) (v : Value) (ss : List ByteArray) : Prop := w.ownsRow base 9 1 v ss.length (ss.map Value.string)

theorem OwnS.nil (w : World) (base : Nat) : OwnS w base (.slice none 0 0) [] := World.ownsRow_nil _ _ _ _

theorem OwnS.split {w : World} {base : Nat} {v : Value} {ss : List ByteArray} (h : OwnS w base v ss) :
    (v = .slice none 0 0 ∧ ss = []) ∨ ∃ g cap, v = .slice (some ⟨g, 0, none⟩) ss.length cap ∧ base ≤ g ∧ g < w.heap.size ∧ ss.length ≤ cap ∧ cap ≤ maxLen := by
  rcases own_split h with ⟨h1, _, h3⟩ | h
  · exact .inl ⟨h1, by simpa using h3⟩
  · exact .inr h

theorem OwnS.lt {w : World} {base : Nat} {v : Value} {ss : List ByteArray} (h : OwnS w base v ss) : ∀ k, v.ownBlock = some k → base ≤ k ∧ k < w.heap.size := World.ownsRow.lt h

theorem OwnS.belowA {w w' : World} {base : Nat} {v : Value} {ss : List ByteArray} (h : OwnS w base v ss) (hb : Below w.heap.size w w') : OwnS w' base v ss := by
  have hlt := h.lt
  obtain ⟨hl, h⟩ := h
  refine ⟨hl, ?_⟩
  rcases h with h | ⟨g, cap, cur, rfl, hbg, hh, r⟩
  · exact .inl h
  · exact .inr ⟨g, cap, cur, rfl, hbg, by rw [hb.block g (hlt g rfl).2]; exact hh, r⟩

theorem OwnS.alloc {w : World} {base : Nat} {v : Value} {ss : List ByteArray} (h : OwnS w base v ss) (o : Obj) : OwnS (w.alloc o) base v ss := World.ownsRow.alloc h o

theorem OwnS.heap {w w' : World} {base : Nat} {v : Value} {ss : List ByteArray} (h : OwnS w base v ss) (e : w'.heap = w.heap) : OwnS w' base v ss := by
  obtain ⟨hl, h⟩ := h
  refine ⟨hl, ?_⟩
  rcases h with h | ⟨g, cap, cur, rfl, hbg, hh, r⟩
  · exact .inl h
  · exact .inr ⟨g, cap, cur, rfl, hbg, by rw [e]; exact hh, r⟩

theorem OwnS.cells {w : World} {base g n cap : Nat} {ss : List ByteArray} (h : OwnS w base (.slice (some ⟨g, 0, none⟩) n cap) ss) :
    ∀ (j : Nat) x, ss[j]? = some x → w.cell? ⟨g, 0 + j, none⟩ = some (.string x) := by
  intro j x hj
  have h1 := World.ownsRow.cells h (g := g) rfl j (.string x) (by simp [hj])
  rw [add_none] at h1
  exact h1

/-- 'append(l, s)'. -/
theorem wpList_appS {ops : Array Oper} {rest : List Oper} {o : Oper} {a : Act} {Q : Exit → Act → World → Prop} (w : World) (hgd : o.guard = none) (s x : Operand)
    (ho : o.op = .call { callee := .builtin .append, args := #[s, x], argTypes := #[69, 69] })
    (base : Nat) (v : Value) (ss : List ByteArray) (hs : a.eval s = v) (hown : OwnS w base v ss) (b : Nat) (z : ByteArray) (hx : a.eval x = .slice (some ⟨b, 0, none⟩) 1 1) (hcell : w.cell? ⟨b, 0, none⟩ = some (.string z))
    (t : Nat) (ht : ss.length + 1 = t) (hb : t ≤ 4000000000) (hbase : base ≤ w.heap.size)
    (h : ∀ g c' w', OwnS w' base (.slice (some ⟨g, 0, none⟩) t c') (ss ++ [z]) → base ≤ g → g < w'.heap.size → t ≤ c' → c' ≤ maxLen → w.grownBy w' v.ownBlock → wpList Tryz.prog ops Q rest (a.put o.dst (.slice (some ⟨g, 0, none⟩) t c')) w') :
    wpList Tryz.prog ops Q (o :: rest) a w := by
  obtain ⟨i0, hi, hz0, hz1, hz2⟩ := info_parts Tryz.infoS
  refine wpList_append_own w hgd s x 69 ho base 9 i0 (.string ⟨#[]⟩) 1 16 Tryz.underlying69 hi hz0 hz1 hz2 rfl (by decide) v _ _ hs hown ⟨b, 0, none⟩ 1 1 [.string z] hx rfl ?_ (by simp; rfl) (by unfold maxLen; omega) (by omega) hbase ?_
  · intro j u hj
    match j, hj with
    | 0, hj => simp at hj; subst hj; rw [add_none]; exact hcell
  · intro v' w' h1 h2 h3
    have h1' : OwnS w' base v' (ss ++ [z]) := by unfold OwnS; rw [List.length_append, List.map_append]; exact h1
    rcases h1'.split with ⟨hv, hx'⟩ | ⟨g, c', hv, hb', hl', hc', hm'⟩
    · simp at hx'
    · have e : (ss ++ [z]).length = t := by rw [List.length_append]; exact ht
      rw [e] at hv hc'
      subst hv
      exact h g c' w' h1' hb' hl' hc' hm' h2

end Go.Proofs.YthnfhkmonfkceaaGreatDoor

namespace Go.Proofs.YthnfhkmonfkceaaGreatDoor
open Go.RowKit Go.IntWalk Go.Shelf

theorem putB_one (tag : Int) (xs : List Int) (h1 : isTagB tag = true) (h2 : xs.length ≤ 16777215) : putB tag [xs] = [tag] ++ lenB xs.length ++ xs := by
  unfold putB putS
  rw [if_neg (by simp [h1])]
  simp only [List.flatten_cons, List.flatten_nil, List.append_nil]
  rw [if_neg (by omega)]
  simp
theorem putB_two (tag : Int) (xs ys : List Int) : putB tag [xs, ys] = putB tag [xs ++ ys] := by unfold putB putS; simp

set_option maxRecDepth 100000 in
theorem rnput_any (tag : Int) (ht : isTagB tag = true) (a : Option Addr) (m c : Nat) (xs : List Int) (w : World) (hs : Src w a m c xs) (hm : m ≤ 16777215) :
    Calls Tryz.prog 59 #[.int .i64 tag, .slice a m c] w fun e w' => ∃ g k c', e = .returned (.slice (some ⟨g, 0, none⟩) k c') ∧ OwnB w' w.heap.size (.slice (some ⟨g, 0, none⟩) k c') (putB tag [xs]) ∧ Below w.heap.size w w' := by
  have hb := tag_bd ht
  have e := putB_one tag xs ht (by rw [hs.hlen]; exact hm)
  rw [hs.hlen] at e
  have hC := hide (bytes_any tag a m c xs w hs hb.1 hb.2 (by omega))
  rw [e]
  clear e
  generalize [tag] ++ lenB m ++ xs = P at hC ⊢
  generalize 1 + (lenB m).length + m = k at hC
  go_enter Tryz.func59, Tryz.ntmps59
  go_wp2_with fail
  refine hC.out.mono ?_
  rintro e w1 ⟨g, c', rfl, O1, B1⟩
  go_wp2
  go_ret
  exact ⟨g, k, c', rfl, O1, B1⟩

end Go.Proofs.YthnfhkmonfkceaaGreatDoor

namespace Go.Proofs.YthnfhkmonfkceaaGreatDoor
open Go.RowKit Go.IntWalk Go.Shelf

set_option maxRecDepth 100000 in
set_option maxHeartbeats 2000000 in
theorem rmayN_any (ao : Option Addr) (n cap : Nat) (xs : List (Int × ByteArray)) (w : World) (hA : Ats w ao n cap xs) (hz : ∀ x ∈ xs, x.2.size ≤ 140737488355328) :
    Calls Tryz.prog 38 #[.slice ao n cap] w fun e w' => e = .returned (.bool (nameL xs)) ∧ Below w.heap.size w w' := by
  have HL := hide hA.hl
  have hc := hA.hcap
  have hm := hA.hmax
  unfold maxLen at hm
  have HA := hide hA
  have HZ := hide hz
  have hR : Hid (nameL xs = (decide (n ≤ 16) && xs.all (fun x => attrL x.1 x.2.data.toList))) := by unfold Hid nameL; rw [HL.out]
  clear hA hz
  generalize nameL xs = R at hR ⊢
  go_enter Tryz.func38, Tryz.ntmps38
  go_wp2
  go_loopw [3] (fun v wr => ∃ k : Nat, v = .int .i64 k ∧ k ≤ n ∧ Hid (xs.all (fun x => attrL x.1 x.2.data.toList) = (xs.drop k).all (fun x => attrL x.1 x.2.data.toList)) ∧ Hid (Below w.heap.size w wr)) (fun v _ => n - (intOf v).toNat)
  case atStart => exact ⟨0, rfl, Nat.zero_le _, rfl, Below.refl _ _⟩
  case round =>
    obtain ⟨k, rfl, hk, hE, hQ⟩ := hrel
    by_cases hlt : k < n
    · have ltI : (k : Int) < (n : Int) := by omega
      obtain ⟨b, off, rfl, hcl⟩ := (HA.out.below hQ.out).hrd (by omega)
      obtain ⟨c0, c1⟩ := hcl k hlt
      have hst := hide (all_dropN (fun x => attrL x.1 x.2.data.toList) xs k (by rw [HL.out]; exact hlt))
      have hsz := HZ.out _ (getD_mem (xs := xs) (i := k) (by rw [HL.out]; exact hlt))
      generalize xs.getD k (0, ByteArray.empty) = x at c0 c1 hst hsz
      obtain ⟨t, s⟩ := x
      simp only [] at c0 c1 hsz
      clear hcl
      have hB := hide (fun W => mayAttr_any t s hsz W)
      replace hst : Hid ((xs.drop k).all (fun x => attrL x.1 x.2.data.toList) = (attrL t s.data.toList && (xs.drop (k + 1)).all (fun x => attrL x.1 x.2.data.toList))) := hst.out
      generalize attrL t s.data.toList = q at hB hst
      cases q with
      | true =>
        have hE2 : Hid (xs.all (fun x => attrL x.1 x.2.data.toList) = (xs.drop (k + 1)).all (fun x => attrL x.1 x.2.data.toList)) := by unfold Hid; rw [hE.out, hst.out, Bool.true_and]
        go_wp2_with fail
        refine (hB.out _).mono ?_
        rintro e w1 ⟨rfl, L1⟩
        go_wp2
        go_roundw
        case rel => exact ⟨k + 1, by simp, by omega, hE2, hQ.out.trans (L1.mono hQ.out.size)⟩
        case measure => simp [intOf]; omega
      | false =>
        have hF : Hid (R = false) := by unfold Hid; rw [hR.out, hE.out, hst.out]; simp
        go_wp2_with fail
        refine (hB.out _).mono ?_
        rintro e w1 ⟨rfl, L1⟩
        go_wp2
        go_ret
        exact ⟨by rw [hF.out]; rfl, hQ.out.trans (L1.mono hQ.out.size)⟩
    · have ltI : ¬ (k : Int) < (n : Int) := by omega
      have hall : xs.all (fun x => attrL x.1 x.2.data.toList) = true := by rw [hE.out, List.drop_eq_nil_of_le (by rw [HL.out]; omega)]; rfl
      have hF : Hid (R = decide (n ≤ 16)) := by unfold Hid; rw [hR.out, hall, Bool.and_true]
      by_cases h16 : n ≤ 16
      · have i16 : (n : Int) ≤ 16 := by omega
        go_wp2
        go_ret
        exact ⟨by rw [hF.out, decide_eq_true h16]; rfl, hQ.out⟩
      · have i16 : ¬ (n : Int) ≤ 16 := by omega
        go_wp2
        go_ret
        exact ⟨by rw [hF.out, decide_eq_false h16]; rfl, hQ.out⟩

end Go.Proofs.YthnfhkmonfkceaaGreatDoor
