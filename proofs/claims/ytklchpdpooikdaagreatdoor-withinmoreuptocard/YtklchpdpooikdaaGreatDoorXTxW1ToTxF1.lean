/-
  text.Words$1, the function that is ranged over: it goes over the words of a text.
  A text as it is compared: what is laid of its words. No program, but for the letters' call.
  text.Fold: the letters' call; the memory while it runs (FSt); how it is left.
-/
import Derived.RangeFuncNested
import Derived.RangeFuncBound
import Derived.RangeFuncCalls
import Derived.RangeFuncLeaves
import Derived.RangeFuncBox
import Derived.Shelf.Abstract
import Derived.Shelf.RegionOpen
import Derived.WalkKit
import Derived.OwnWalkIn
import Derived.TacticsInMore
import Derived.LoopNIn
import Derived.LoopIn
import Derived.Test.YtklchpdpooikdaaGreatDoorXOSizeToRangeP
import Derived.Test.YtklchpdpooikdaaGreatDoorXLentToTxV1
import Derived.Test.YtklchpdpooikdaaGreatDoorXTxV3ToTxP2
import Derived.Test.YtklchpdpooikdaaGreatDoorXTxP3ToTxP4
import Derived.Test.YtklchpdpooikdaaGreatDoorXBaseToBts
import Derived.Test.YtklchpdpooikdaaGreatDoorXOneToRTag
import Derived.Test.YtklchpdpooikdaaGreatDoorXItsToNextS
import Derived.Test.YtklchpdpooikdaaGreatDoorXNumbersToQRound
namespace Go.Proofs.YtklchpdpooikdaaGreatDoor
open Go.RowKit Go.Shelf Go.IntWalk
attribute [local go_sem] Oper.semAt_some

theorem words_in (n : Nat) (s : ByteArray) (w : World) :
    CallsIn Fence.wide n Tryz.prog 188 #[.string s] w fun e w' => e = .returned (.func (.func 198) #[] #[.pointer (some ⟨w.heap.size, 0, none⟩)]) ∧ w' = w.alloc (.cells #[.string s] 9) := by
  refine callsIn_of_wp Tryz.func188 rfl trivial ?_ rfl
  simp only [Tryz.ntmps188, List.size_toArray, List.length_cons, List.length_nil, Nat.reduceAdd, Nat.reduceSub, Array.replicate_succ, Array.replicate_zero, List.push_toArray, List.append_toArray, List.nil_append, List.cons_append]
  gi_wp2
  go_ret
  exact ⟨rfl, rfl⟩

theorem clone_any (s : ByteArray) (hs : s.size ≤ 140737488355328) (w : World) :
    Calls Tryz.prog 97 #[.string s] w fun e w' => e = .returned (.string s) ∧ Below w.heap.size w w' := by
  have hC := hide (fun W => Tryz.stringslite_Clone s W (by omega))
  go_enter Tryz.func97, Tryz.ntmps97
  go_wp2_with (go_at_call 134; refine (hC.out _).mono ?_; rintro e w2 ⟨rfl, h2⟩)
  go_ret
  exact ⟨rfl, h2⟩

theorem grown_iterAt (w : World) (k : Nat) (s : ByteArray) (p : Nat) : w.grownBy (w.iterAt k s p) (some k) :=
  ⟨rfl, rfl, rfl, by rw [Lib.iterAt_size]; exact Nat.le_refl _, fun i _ hne => Lib.iterAt_other w k i s p (fun e => hne (by rw [e]))⟩

theorem cut_text (s : ByteArray) (a b : Nat) : s.extract a b = ⟨(cutL s.data.toList a b).toArray⟩ := by
  apply ByteArray.ext
  rw [ByteArray.data_extract]
  apply Array.ext'
  rw [Array.toList_extract]
  unfold cutL
  rw [List.drop_take]

theorem dec_blank (s : ByteArray) (p : Nat) (hp : p < s.size) (hb : (s[p]'hp) = 32) : Utf8.decode s p = (32, 1) := by
  have h := decode_ascii s p hp (by rw [hb]; decide)
  rw [hb] at h
  exact h

theorem dec_word (s : ByteArray) (p : Nat) (hp : p < s.size) (hb : (s[p]'hp) ≠ 32) :
    (Utf8.decode s p).1 ≠ 32 ∧ p + (Utf8.decode s p).2 ≤ s.size ∧ 1 ≤ (Utf8.decode s p).2 ∧ ∀ b ∈ (s.data.toList.drop p).take (Utf8.decode s p).2, b ≠ 32 := by
  have hL := len_at s p
  have hl : p < s.data.toList.length := by rw [Array.length_toList]; exact hp
  have b0 : (s[p]'hp).toNat = bt (s.data.toList.drop p) 0 := byte_at s p 0 hp
  by_cases h : (s[p]'hp).toNat < 128
  · rw [decode_ascii s p hp h]
    refine ⟨?_, by omega, Nat.le_refl _, ?_⟩
    · intro e
      apply hb
      apply UInt8.toNat_inj.1
      exact e
    · rw [List.drop_eq_getElem_cons hl]
      intro b hb2
      simp at hb2
      subst hb2
      exact hb
  · have hh := decode_high s p hp (by omega)
    have hle := charL_le (s.data.toList.drop p) (by omega)
    refine ⟨by have := hh.1; omega, ?_, hh.2, ?_⟩
    · rcases decode_char s p hp with ⟨_, h2⟩ | ⟨_, h2, _⟩
      · rw [h2]; show p + 1 ≤ s.size; omega
      · rw [h2]; omega
    · refine char_noblank _ _ (by omega) ?_
      rcases decode_char s p hp with ⟨_, h2⟩ | ⟨_, h2, _⟩
      · right; rw [h2]
      · left; exact h2

theorem get_list (s : ByteArray) (p : Nat) (hp : p < s.size) (hl : p < s.data.toList.length) : s.data.toList[p]'hl = s[p]'hp := by simp; rfl

set_option maxRecDepth 100000 in
set_option maxHeartbeats 4000000 in
theorem words1_in (n : Nat) (hn : 1 ≤ n) (l Bs : Nat) (s : ByteArray) (hs : s.size ≤ 140737488355328) (J : List (List UInt8) → World → Prop) (Jx : World → Prop) (W : World)
    (hH : ∀ ws W1, J ws W1 → W1.cell? ⟨Bs, 0, none⟩ = some (.string s)) (hK : ∀ ws W1 W2, J ws W1 → W1.grownBy W2 (some W.heap.size) → J ws W2)
    (hY : ∀ (u : List UInt8) (ws : List (List UInt8)) W1 p, J (u :: ws) W1 → W1.heap[W.heap.size]? = some (.stringIter s p) → 0 < u.length → u.length ≤ s.size → YieldAt Fence.wide (n - 1) Tryz.prog l #[.string ⟨u.toArray⟩] W1 fun e W' =>
      (e = .returned (.bool true) ∧ J ws W' ∧ W'.heap[W.heap.size]? = W1.heap[W.heap.size]?) ∨ (e = .returned (.bool false) ∧ Jx W'))
    (h0 : J (wordsL s.data.toList) W) :
    CallsIn Fence.wide n Tryz.prog 198 #[.func (.yield l) #[] #[], .pointer (some ⟨Bs, 0, none⟩)] W fun e W' => (∃ v, e = .returned v) ∧ (J [] W' ∨ Jx W') := by
  refine callsIn_of_wp Tryz.func198 rfl trivial ?_ rfl
  simp only [Tryz.ntmps198, List.size_toArray, List.length_cons, List.length_nil, Nat.reduceAdd, Nat.reduceSub, Array.replicate_succ, Array.replicate_zero, List.push_toArray, List.append_toArray, List.nil_append, List.cons_append]
  have hc0 := hH _ _ h0
  obtain ⟨B, hB⟩ : ∃ B, W.heap.size = B := ⟨_, rfl⟩
  have hit0 : Hid ((W.iter s 0).heap[B]? = some (.stringIter s 0)) := by rw [← hB]; exact World.iter_heap W s 0
  have hJ0 : Hid (J (wordsG (cutL s.data.toList 0 0) (s.data.toList.drop 0)) (W.iter s 0)) := by unfold Hid; rw [← words_begin]; exact hK _ _ _ h0 (World.grownBy_alloc _ _ _)
  have hR0 : Hid ((Instr.range 9 (.string s)).run Tryz.prog W = .ok (.pointer (some ⟨B, 0, none⟩)) (W.iter s 0)) := by unfold Hid; rw [← hB]; exact run_range_string W _ s Tryz.underlying9
  rw [hB] at hK hY
  have hSL := size_len s
  have hR1 := hR0.out
  generalize W.iter s 0 = W0 at hit0 hJ0 hR0 hR1
  clear hR0
  gi_wp2_with fail
  gi_loopw [3] (fun bg wr => ∃ (a p : Nat), bg = .int .i64 a ∧ a ≤ p ∧ p ≤ s.size ∧ Hid (wr.heap[B]? = some (.stringIter s p)) ∧ Hid (J (wordsG (cutL s.data.toList a p) (s.data.toList.drop p)) wr)) (fun _ wr => s.size - wr.iterPos B)
  case atStart => exact ⟨0, 0, rfl, Nat.le_refl _, Nat.zero_le _, hit0, hJ0⟩
  case round =>
    obtain ⟨a, p, rfl, hap, hps, hit, hJ⟩ := hrel
    have hme : Hid (wr.iterPos B = p) := by unfold Hid World.iterPos; rw [hit.out]
    by_cases hp : p < s.size
    · have hnx : ∀ ty, (Instr.next (.pointer (some ⟨B, 0, none⟩)) true ty).run Tryz.prog wr = _ := fun ty => Lib.run_next_any_at wr B s p ty hit.out hp
      have hl : p < s.data.toList.length := by rw [hSL]; exact hp
      by_cases hb : (s[p]'hp) = 32
      · have st := words_blank s.data.toList a p hl (by rw [get_list s p hp hl]; exact hb) hap
        rw [dec_blank s p hp hb] at hnx
        have hit1 := hide (Lib.iterAt_heap wr B s p (p + 1) hit.out)
        have hJ1 := hide (hK _ _ _ hJ.out (grown_iterAt wr B s (p + 1)))
        have hnx2 : ∀ ty, (Instr.next (.pointer (some ⟨B, 0, none⟩)) true ty).run Tryz.prog wr = .ok (.tuple #[.bool true, .int .i64 p, .int .i32 32]) (wr.iterAt B s (p + 1)) := hnx
        rw [st] at hJ1
        clear st hnx hJ hit hb
        generalize wr.iterAt B s (p + 1) = w1 at hit1 hJ1 hnx2
        by_cases hlt : a = p
        · subst hlt
          rw [if_pos rfl] at hJ1
          gi_wp2
          refine ⟨trivial, ?_⟩
          gi_wp2
          refine ⟨(by intro f h; cases h), ?_⟩
          gi_wp2
          refine ⟨⟨a + 1, a + 1, by simp, Nat.le_refl _, by omega, hit1, hJ1⟩, ?_⟩
          rw [hme.out]; unfold World.iterPos; rw [hit1.out]; show s.size - (a + 1) < s.size - a; omega
        · rw [if_neg hlt] at hJ1
          have hc1 := hH _ _ hJ1.out
          have ltI : (a : Int) < (p : Int) := by omega
          have hlen := cutL_len s.data.toList a p (by omega)
          have hCl := hide (fun X => clone_any ⟨(cutL s.data.toList a p).toArray⟩ (by show (cutL s.data.toList a p).toArray.size ≤ _; simp; omega) X)
          have sl : ∀ X, (Instr.slice 9 (.string s) (some (.int .i64 (a : Int))) (some (.int .i64 (p : Int))) none).run Tryz.prog X = .ok (.string ⟨(cutL s.data.toList a p).toArray⟩) X := fun X => by
            have h := run_slice_string (P := Tryz.prog) (w := X) 9 s .i64 .i64 (a : Int) (p : Int) Tryz.underlying9 (by omega) (by omega) (by omega)
            rw [h, ← cut_text]; simp
          have HY := hide (fun W1 h1 h2 => hY (cutL s.data.toList a p) (wordsG (cutL s.data.toList (p + 1) (p + 1)) (s.data.toList.drop (p + 1))) W1 (p + 1) h1 h2 (by omega) (by omega))
          have hK' := hide (fun W2 h => hK _ _ W2 hJ1.out h)
          have hz1 : Hid (B < w1.heap.size) := (Array.getElem?_eq_some_iff.1 hit1.out).1
          clear hlen hY hK
          generalize cutL s.data.toList a p = u at hJ1 sl HY hK' hCl
          generalize hws : wordsG (cutL s.data.toList (p + 1) (p + 1)) (s.data.toList.drop (p + 1)) = ws at hJ1 HY hK'
          gi_wp2_with (refine ⟨trivial, ?_⟩; gi_at_call 97; refine (callsIn_wide.2 (hCl.out _)).mono ?_; rintro e w2 ⟨rfl, D2⟩; have hi2 := hide ((D2.block _ hz1.out).trans hit1.out); obtain ⟨fn, tmps, assign, body, hy, hR⟩ := HY.out w2 (hK'.out _ (grown_of_below D2)) hi2.out)
          refine hR.mono ?_
          rintro e W3 (⟨rfl, hJ3, hB3⟩ | ⟨rfl, hx3⟩)
          · have hi3 := hide (hB3.trans hi2.out)
            have hJ3' := hide hJ3
            clear hJ3 hB3
            gi_wp2
            refine ⟨⟨p + 1, p + 1, by simp, Nat.le_refl _, by omega, hi3, ?_⟩, ?_⟩
            · rw [hws]; exact hJ3'
            · rw [hme.out]; unfold World.iterPos; rw [hi3.out]; show s.size - (p + 1) < s.size - p; omega
          · gi_wp2
            refine bodyPost_ret (results_none rfl _ _ _) rfl ?_
            exact ⟨⟨_, rfl⟩, .inr hx3⟩
      · obtain ⟨d1, d2, d3, d4⟩ := dec_word s p hp hb
        have st := words_step s.data.toList a p (Utf8.decode s p).2 hap (by omega) d4
        have hit1 := hide (Lib.iterAt_heap wr B s p (p + (Utf8.decode s p).2) hit.out)
        have hJ1 := hide (hK _ _ _ hJ.out (grown_iterAt wr B s (p + (Utf8.decode s p).2)))
        rw [st] at hJ1
        clear st hJ hit d4
        generalize hD : Utf8.decode s p = D at *
        obtain ⟨rr, wd⟩ := D
        have d1 : rr ≠ 32 := d1
        have d2 : p + wd ≤ s.size := d2
        have d3 : 1 ≤ wd := d3
        have hnx2 : ∀ ty, (Instr.next (.pointer (some ⟨B, 0, none⟩)) true ty).run Tryz.prog wr = .ok (.tuple #[.bool true, .int .i64 p, .int .i32 rr]) (wr.iterAt B s (p + wd)) := hnx
        have hit1 : Hid ((wr.iterAt B s (p + wd)).heap[B]? = some (.stringIter s (p + wd))) := hit1
        have hJ1 : Hid (J (wordsG (cutL s.data.toList a (p + wd)) (s.data.toList.drop (p + wd))) (wr.iterAt B s (p + wd))) := hJ1
        clear hnx hD
        generalize wr.iterAt B s (p + wd) = w1 at hit1 hJ1 hnx2
        have hq : ((rr : Int) != 32) = true := by simp; omega
        gi_wp2
        refine ⟨⟨a, p + wd, rfl, by omega, by omega, hit1, hJ1⟩, ?_⟩
        rw [hme.out]; unfold World.iterPos; rw [hit1.out]; show s.size - (p + wd) < s.size - p; omega
    · obtain rfl : p = s.size := by omega
      have hnx : ∀ ty, (Instr.next (.pointer (some ⟨B, 0, none⟩)) true ty).run Tryz.prog wr = _ := fun ty => Lib.run_next_end_at wr B s s.size ty hit.out hp
      have st := words_end s.data.toList a (by omega)
      rw [hSL] at st
      rw [st] at hJ
      clear st
      have hc1 := hH _ _ hJ.out
      by_cases hlt : a = s.size
      · rw [if_pos hlt] at hJ
        have nI : ¬ (a : Int) < (s.size : Int) := by omega
        gi_wp2
        go_end0
        exact ⟨⟨_, rfl⟩, .inl hJ.out⟩
      · rw [if_neg hlt] at hJ
        have ltI : (a : Int) < (s.size : Int) := by omega
        have hlen := cutL_len s.data.toList a s.size (by omega)
        have hCl := hide (fun X => clone_any ⟨(cutL s.data.toList a s.size).toArray⟩ (by show (cutL s.data.toList a s.size).toArray.size ≤ _; simp; omega) X)
        have sl : ∀ X, (Instr.slice 9 (.string s) (some (.int .i64 (a : Int))) none none).run Tryz.prog X = .ok (.string ⟨(cutL s.data.toList a s.size).toArray⟩) X := fun X => by
          have h := run_slice_string_l (P := Tryz.prog) (w := X) 9 s Tryz.underlying9 .i64 (a : Int) (by omega) (by omega)
          rw [h, ← cut_text]; simp
        have HY := hide (fun W1 h1 h2 => hY (cutL s.data.toList a s.size) [] W1 s.size h1 h2 (by omega) (by omega))
        have hK' := hide (fun W2 h => hK _ _ W2 hJ.out h)
        have hz1 : Hid (B < wr.heap.size) := (Array.getElem?_eq_some_iff.1 hit.out).1
        clear hlen hY hK
        generalize cutL s.data.toList a s.size = u at hJ sl HY hK' hCl
        gi_wp2_with (refine ⟨trivial, ?_⟩; gi_at_call 97; refine (callsIn_wide.2 (hCl.out _)).mono ?_; rintro e w2 ⟨rfl, D2⟩; have hi2 := hide ((D2.block _ hz1.out).trans hit.out); obtain ⟨fn, tmps, assign, body, hy, hR⟩ := HY.out w2 (hK'.out _ (grown_of_below D2)) hi2.out)
        refine hR.mono ?_
        rintro e W3 (⟨rfl, hJ3, hB3⟩ | ⟨rfl, hx3⟩)
        · have hJ3' := hide hJ3
          clear hJ3 hB3
          gi_wp2
          go_end0
          exact ⟨⟨_, rfl⟩, .inl hJ3'.out⟩
        · gi_wp2
          go_end0
          exact ⟨⟨_, rfl⟩, .inr hx3⟩

end Go.Proofs.YtklchpdpooikdaaGreatDoor

namespace Go.Proofs.YtklchpdpooikdaaGreatDoor
open Go.RowKit Go.IntWalk

/-- The small letter of a great one. -/
def smallB (b : UInt8) : UInt8 := if 65 ≤ b.toNat ∧ b.toNat ≤ 90 then b + 32 else b
/-- What is laid, with one blank ahead of the next word. -/
def gap (acc : List UInt8) : List UInt8 := if acc.length = 0 then acc else acc ++ [32]
/-- What is laid of some words behind what lies. -/
def lay (acc : List UInt8) : List (List UInt8) → List UInt8
  | [] => acc
  | u :: ws => lay (gap acc ++ u.map smallB) ws
/-- A text as it is compared. -/
def foldL (l : List UInt8) : List UInt8 := lay [] (wordsL l)
/-- Bytes as numbers. -/
def nums (l : List UInt8) : List Int := l.map (fun b => (b.toNat : Int))

theorem gap_len (acc : List UInt8) : (gap acc).length ≤ acc.length + 1 := by unfold gap; split <;> simp

theorem lay_len : ∀ (ws : List (List UInt8)) (acc : List UInt8), (lay acc ws).length ≤ acc.length + spanW ws
  | [], acc => by simp [lay, spanW]
  | u :: ws, acc => by
    have h := lay_len ws (gap acc ++ u.map smallB)
    have g := gap_len acc
    rw [List.length_append, List.length_map] at h
    simp only [lay, spanW]
    omega

theorem nums_len (l : List UInt8) : (nums l).length = l.length := by simp [nums]
theorem nums_append (a b : List UInt8) : nums (a ++ b) = nums a ++ nums b := by simp [nums]
theorem nums_bytes (l : List UInt8) : ∀ x ∈ nums l, 0 ≤ x ∧ x < 256 := by
  intro x hx
  obtain ⟨b, _, rfl⟩ := List.mem_map.1 hx
  have := b.toNat_lt
  omega

theorem nums_text (l : List UInt8) : strOfNums (nums l) = ⟨l.toArray⟩ := by
  apply ByteArray.ext
  apply Array.ext'
  rw [strOfNums_data]
  unfold nums
  rw [List.map_map]
  show l.map _ = l
  conv => rhs; rw [← List.map_id l]
  apply List.map_congr_left
  intro b _
  show UInt8.ofNat ((b.toNat : Int).toNat) = b
  simp

theorem small_num (b : UInt8) : ((smallB b).toNat : Int) = if (65 : Int) ≤ (b.toNat : Int) ∧ (b.toNat : Int) ≤ 90 then (b.toNat : Int) + 32 else (b.toNat : Int) := by
  unfold smallB
  by_cases h : 65 ≤ b.toNat ∧ b.toNat ≤ 90
  · rw [if_pos h, if_pos (by omega), UInt8.toNat_add]
    have e : (32 : UInt8).toNat = 32 := rfl
    rw [e]
    omega
  · rw [if_neg h, if_neg (by omega)]

theorem take_nextI (u : List UInt8) (k : Nat) (h : k < u.length) : (u.take (k + 1)).map smallB = (u.take k).map smallB ++ [smallB (u[k]'h)] := by
  rw [List.take_succ_eq_append_getElem h, List.map_append]
  rfl

end Go.Proofs.YtklchpdpooikdaaGreatDoor

namespace Go.Proofs.YtklchpdpooikdaaGreatDoor
open Go.RowKit Go.Shelf Go.IntWalk
attribute [local go_sem] Oper.semAt_some

set_option maxRecDepth 100000 in
theorem small_any (b : UInt8) (w : World) :
    Calls Tryz.prog 189 #[.int .u8 b.toNat] w fun e w' => e = .returned (.int .u8 ((smallB b).toNat)) ∧ w' = w := by
  have hb := b.toNat_lt
  have hS := hide (small_num b)
  generalize ((smallB b).toNat : Int) = S at hS ⊢
  generalize b.toNat = n at *
  go_enter Tryz.func189, Tryz.ntmps189
  go_wp2
  all_goals go_ret
  all_goals refine ⟨?_, rfl⟩
  all_goals rw [hS.out]
  all_goals first
    | (rw [if_pos (by omega)]; rfl)
    | (rw [if_neg (by omega)]; rfl)
    | (rw [if_pos (by omega)]; show Ending.returned (Value.int .u8 _) = _; congr 2; rw [IntKind.wrap_u8]; omega)

theorem OwnB.block {W : World} {base : Nat} {v : Value} {xs : List Int} (h : OwnB W base v xs) : ∀ k, v.ownBlock = some k → ∃ c f, W.heap[k]? = some (.cells c 5 f) := by
  intro k hk
  rcases h.2 with ⟨rfl, _⟩ | ⟨g, cap, cur, rfl, _, hg, _⟩
  · simp [Value.ownBlock] at hk
  · simp [Value.ownBlock] at hk
    subst hk
    exact ⟨cur, _, hg⟩

/-- The memory while Fold runs: the row, the variable, the text, the loop's block of deferred calls, its record, the iterator. -/
structure FSt (w : World) (sv : ByteArray) (lp : Loop) (acc : List UInt8) (v : Value) (io : Option Obj) (W : World) : Prop where
  loop : W.heap[w.heap.size + 4]? = some (.loop lp)
  dfr : W.heap[w.heap.size + 3]? = some (.deferred (some []))
  box : Boxed W (w.heap.size + 1) 64 v
  b2 : Boxed W (w.heap.size + 2) 9 (.string sv)
  row : OwnB W w.heap.size v (nums acc)
  nb : v.ownBlock ≠ some (w.heap.size + 5)
  it : ∀ o, io = some o → W.heap[w.heap.size + 5]? = some o
  bel : Below w.heap.size w W

theorem FSt.heap {w : World} {sv : ByteArray} {lp : Loop} {acc : List UInt8} {v : Value} {io : Option Obj} {W W' : World} (h : FSt w sv lp acc v io W) (d : Drawn W W') : FSt w sv lp acc v io W' :=
  ⟨by rw [d.heap]; exact h.loop, by rw [d.heap]; exact h.dfr, by unfold Boxed; rw [d.heap]; exact h.box, by unfold Boxed; rw [d.heap]; exact h.b2, h.row.heap d.heap, h.nb, fun o e => by rw [d.heap]; exact h.it o e, d.below h.bel⟩

theorem FSt.grown {w : World} {sv : ByteArray} {lp : Loop} {acc : List UInt8} {v : Value} {io : Option Obj} {W W' : World} (h : FSt w sv lp acc v io W) (g : W.grownBy W' (some (w.heap.size + 5))) : FSt w sv lp acc v none W' := by
  refine ⟨?_, ?_, h.box.kept g (by simp), h.b2.kept g (by simp), h.row.kept g (.inr h.nb), h.nb, fun o e => (by cases e), h.bel.grown g h.bel.size (by intro k e; cases e; omega)⟩
  · rw [g.block _ (Array.getElem?_eq_some_iff.1 h.loop).1 (by simp)]; exact h.loop
  · rw [g.block _ (Array.getElem?_eq_some_iff.1 h.dfr).1 (by simp)]; exact h.dfr

theorem FSt.tell {w : World} {sv : ByteArray} {lp : Loop} {acc : List UInt8} {v : Value} {io : Option Obj} {W : World} (h : FSt w sv lp acc v io W) (o : Obj) (ho : W.heap[w.heap.size + 5]? = some o) : FSt w sv lp acc v (some o) W :=
  ⟨h.loop, h.dfr, h.box, h.b2, h.row, h.nb, fun o' e => by cases e; exact ho, h.bel⟩

theorem FSt.put {w : World} {sv : ByteArray} {lp : Loop} {acc : List UInt8} {v : Value} {io : Option Obj} {W : World} (h : FSt w sv lp acc v io W) (lp' : Loop) : FSt w sv lp' acc v io (W.putObj (w.heap.size + 4) (.loop lp')) := by
  have hlt : w.heap.size + 4 < W.heap.size := (Array.getElem?_eq_some_iff.1 h.loop).1
  have g := grownBy_putObj' W (w.heap.size + 4) (.loop lp')
  refine ⟨World.putObj_heap_same hlt, (World.putObj_heap_other (by omega)).trans h.dfr, h.box.kept g (by simp), h.b2.kept g (by simp), h.row.kept g (.inr fun he => ?_), h.nb, fun o e => (World.putObj_heap_other (by omega)).trans (h.it o e), h.bel.grown g h.bel.size (by intro k e; cases e; omega)⟩
  obtain ⟨c, f, hc⟩ := h.row.block _ he
  rw [h.loop] at hc
  cases hc

/-- Bytes are appended, and the variable is written. -/
theorem FSt.append {w : World} {sv : ByteArray} {lp : Loop} {acc acc' : List UInt8} {v v' : Value} {s : ByteArray} {p : Nat} {W w2 : World} (h : FSt w sv lp acc v (some (.stringIter s p)) W) (o : Obj) (hg : (W.alloc o).grownBy w2 v.ownBlock) (ho : OwnB w2 w.heap.size v' (nums acc')) :
    FSt w sv lp acc' v' (some (.stringIter s p)) (w2.setCell ⟨w.heap.size + 1, 0, none⟩ v') := by
  have nbk : ∀ (k : Nat) (x : Obj), W.heap[k]? = some x → (∀ c f, x ≠ .cells c 5 f) → w2.heap[k]? = some x := by
    intro k x hx hn
    have hlt := (Array.getElem?_eq_some_iff.1 hx).1
    rw [hg.block k (by simp; omega) (fun he => ?_), Below.heap_alloc _ _ _ hlt]
    · exact hx
    · obtain ⟨c, f, hc⟩ := h.row.block k he.symm
      rw [hx] at hc
      cases hc
      exact hn _ _ rfl
  have nx : ∀ (B : Nat) (t : TypeId) (u : Value), t ≠ 5 → Boxed W B t u → Boxed w2 B t u := fun B t u ht hb => nbk B _ hb (by intro c f hc; cases hc; exact ht rfl)
  have a2 := nx _ _ _ (by decide) h.box
  have i2 := nbk _ _ (h.it _ rfl) (by intro c f hc; cases hc)
  refine ⟨?_, ?_, a2.set _, (nx _ _ _ (by decide) h.b2).other (by omega) _, ho.kept (grownBy_setCell' w2 (w.heap.size + 1) v') (.inr fun he => ?_), fun he => ?_, fun o' e => ?_, ?_⟩
  · rw [Below.heap_setCell _ _ _ _ (by simp)]; exact nbk _ _ h.loop (by intro c f hc; cases hc)
  · rw [Below.heap_setCell _ _ _ _ (by simp)]; exact nbk _ _ h.dfr (by intro c f hc; cases hc)
  · obtain ⟨c, f, hc⟩ := ho.block _ he
    have h3 : w2.heap[w.heap.size + 1]? = some (.cells #[v] 64 (0, 0)) := a2
    rw [h3] at hc
    cases hc
  · obtain ⟨c, f, hc⟩ := ho.block _ he
    rw [i2] at hc
    cases hc
  · cases e
    rw [Below.heap_setCell _ _ _ _ (by simp)]; exact i2
  · refine ((h.bel.alloc h.bel.size _).grown hg (by have := h.bel.size; simp; omega) (fun k hk => (h.row.lt k hk).1)).setCell (by simp) _

theorem FSt.boxed {w : World} {sv : ByteArray} {lp : Loop} {acc : List UInt8} {v : Value} {io : Option Obj} {W w2 : World} (h : FSt w sv lp acc v io W) (o : Obj) (hg : (W.alloc o).grownBy w2 v.ownBlock) : Boxed w2 (w.heap.size + 1) 64 v :=
  (h.box.alloc o).kept hg (h.box.not_row (by decide) h.row)

/-- The builtin append, under a name that the walk doesn't open. -/
def appOf (ats : Array TypeId) (ty : TypeId) (args : Array Value) : Sem Value := Builtin.append_ ats ty args
theorem appOf_of (ats : Array TypeId) (ty : TypeId) (args : Array Value) : Builtin.append_ ats ty args = appOf ats ty args := rfl

theorem app_byte {W : World} {base : Nat} {v : Value} {acc : List UInt8} (h : OwnB W base v (nums acc)) (N : UInt8) (hl : acc.length + 1 ≤ 140737488355328) (hbase : base ≤ W.heap.size) :
    ∃ g c w2, (appOf #[64, 64] 64 #[v, .slice (some ⟨W.heap.size, 0, none⟩) 1 1]).run Tryz.prog (W.alloc (.cells #[.int .u8 N.toNat] 5)) = .ok (.slice (some ⟨g, 0, none⟩) (acc.length + 1) c) w2 ∧
      OwnB w2 base (.slice (some ⟨g, 0, none⟩) (acc.length + 1) c) (nums (acc ++ [N])) ∧ (W.alloc (.cells #[.int .u8 N.toNat] 5)).grownBy w2 v.ownBlock := by
  have hN := N.toNat_lt
  have hs : Src (W.alloc (.cells #[.int .u8 N.toNat] 5)) (some ⟨W.heap.size, 0, none⟩) 1 1 [(N.toNat : Int)] := Src.litAt [(N.toNat : Int)] _ 1 _ rfl rfl (by intro x hx; simp at hx; subst hx; omega) (by decide) rfl
  obtain ⟨g, c', w', h1, h2, _, _, _, _, h3⟩ := run_appN (W.alloc (.cells #[.int .u8 N.toNat] 5)) 64 base v (nums acc) (h.alloc _) _ 1 1 [(N.toNat : Int)] hs (acc.length + 1) (by simp [nums]) (.inr (by simp)) hl (by simp; omega)
  exact ⟨g, c', w', h1, by rw [nums_append]; exact h2, h3⟩

set_option maxRecDepth 100000 in
/-- How Fold is left: the loop's mark. -/
theorem fold_leave (w : World) (sv : ByteArray) (lp : Loop) (acc : List UInt8) (v : Value) (io : Option Obj) (W : World) (tmps : Array Value) (x : ByteArray)
    (ht : tmps[2]? = some (.string x)) (hD : FSt w sv lp acc v io W) :
    LeavesInM Fence.wide 4 Tryz.prog Tryz.f176 tmps (fun e w' => e = .returned (.string x) ∧ Below w.heap.size w w') [{ target := .collected (w.heap.size + 3), args := #[] }] .returning W := by
  refine ⟨by simp, .inl ⟨_, _, rfl, run_takeDeferred hD.dfr, ?_⟩⟩
  exact ⟨.string x, by simp [results, Tryz.results176, ht, Array.getD_eq_getD_getElem?], rfl, hD.bel.grown (grownBy_putObj' W (w.heap.size + 3) (.deferred none)) hD.bel.size (by intro k e; cases e; omega)⟩

end Go.Proofs.YtklchpdpooikdaaGreatDoor
