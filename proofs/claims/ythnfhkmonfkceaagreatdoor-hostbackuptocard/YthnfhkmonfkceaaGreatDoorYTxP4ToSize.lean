/-
  May and Kind, both the program's and the document's: of which kind a text is.
  text.Words$1, the function that is ranged over: it goes over the words of a text.
  A text as it is compared: what is laid of its words. No program, but for the letters' call.
  text.Fold: the letters' call; the memory while it runs (FSt); how it is left.
  text.Fold lays what the document says.
  text.Fold and text.Same as calls; the statements' own call works answers true.
  der.Size answers the plain function's number at every int.
-/
import Derived.Test.YthnfhkmonfkceaaGreatDoorYTxV3ToTxP3
import Derived.RangeFuncNested
import Derived.RangeFuncBound
import Derived.RangeFuncCalls
import Derived.RangeFuncLeaves
import Derived.RangeFuncBox
import Derived.Shelf.Abstract
import Derived.Shelf.RegionOpen
import Derived.WalkKit
import Derived.OwnWalkIn
import Derived.TacticsInMore
import Derived.LoopNIn
import Derived.LoopIn
import Derived.Test.YthnfhkmonfkceaaGreatDoorYOSizeToRangeP
import Derived.Test.YthnfhkmonfkceaaGreatDoorYLentToTxV1
import Derived.Test.YthnfhkmonfkceaaGreatDoorYBaseToBts
import Derived.Test.YthnfhkmonfkceaaGreatDoorYOneToRTake
import Derived.Test.YthnfhkmonfkceaaGreatDoorYItsToNextS
import Derived.Test.YthnfhkmonfkceaaGreatDoorYNumbersToQRound
import Derived.Test.YthnfhkmonfkceaaGreatDoorYCloneToFindIt
namespace Go.Proofs.YthnfhkmonfkceaaGreatDoor
open Go.RowKit Go.IntWalk

/-- Is a row of bytes a text of a kind? -/
def mayL (k : Int) (l : List UInt8) : Bool :=
  if 4096 < l.length then false else if k = 12 then decide (validL l = l.length) else if k = 19 then l.all (fun b => printN b.toNat) else if k = 22 then l.all (fun b => ia5N b.toNat) else false

/-- Of which kind a row of bytes is written, or that it is no text. -/
def kindL (l : List UInt8) : Int × Int := if mayL 19 l = true then (19, 0) else if mayL 12 l = true then (12, 0) else (0, 50)

theorem size_len (s : ByteArray) : s.data.toList.length = s.size := by rw [Array.length_toList]; rfl

set_option maxRecDepth 100000 in
set_option maxHeartbeats 1000000 in
theorem may_any (k : Int) (s : ByteArray) (hs : s.size ≤ 140737488355328) (w : World) :
    Calls Tryz.prog 133 #[.int .i64 k, .string s] w fun e w' => e = .returned (.bool (mayL k s.data.toList)) ∧ Below w.heap.size w w' := by
  have hl := size_len s
  by_cases h0 : 4096 < s.size
  · have hm : Hid (mayL k s.data.toList = false) := by unfold Hid mayL; rw [if_pos (by omega)]
    have h0' : (4096 : Int) < (s.size : Int) := by omega
    go_enter Tryz.func133, Tryz.ntmps133
    go_wp2
    go_ret
    exact ⟨by rw [hm.out]; rfl, Below.refl _ _⟩
  have h0' : ¬ (4096 : Int) < (s.size : Int) := by omega
  by_cases h1 : k = 12
  · subst h1
    have hm : Hid (mayL 12 s.data.toList = ((validL s.data.toList : Int) == (s.size : Int))) := by
      unfold Hid mayL; rw [if_neg (by omega), if_pos rfl, hl, Bool.eq_iff_iff]; simp; omega
    have hV := hide (fun W => valid_any s hs W)
    generalize validL s.data.toList = V at hm hV
    go_enter Tryz.func133, Tryz.ntmps133
    go_wp2_with (go_at_call 145; refine (hV.out _).mono ?_; rintro e w2 ⟨rfl, h2⟩)
    go_ret
    exact ⟨by rw [hm.out]; rfl, h2⟩
  by_cases h2 : k = 19
  · subst h2
    have hm : Hid (mayL 19 s.data.toList = s.data.toList.all (fun b => printN b.toNat)) := by unfold Hid mayL; rw [if_neg (by omega), if_neg h1, if_pos rfl]
    have hV := hide (fun W => all_isPrintable s hs W)
    generalize s.data.toList.all (fun b => printN b.toNat) = V at hm hV
    go_enter Tryz.func133, Tryz.ntmps133
    go_wp2_with (go_at_call 146; refine (hV.out _).mono ?_; rintro e w2 ⟨rfl, h2⟩)
    go_ret
    exact ⟨by rw [hm.out]; rfl, h2⟩
  by_cases h3 : k = 22
  · subst h3
    have hm : Hid (mayL 22 s.data.toList = s.data.toList.all (fun b => ia5N b.toNat)) := by unfold Hid mayL; rw [if_neg (by omega), if_neg h1, if_neg h2, if_pos rfl]
    have hV := hide (fun W => all_isIA5 s hs W)
    generalize s.data.toList.all (fun b => ia5N b.toNat) = V at hm hV
    go_enter Tryz.func133, Tryz.ntmps133
    go_wp2_with (go_at_call 146; refine (hV.out _).mono ?_; rintro e w2 ⟨rfl, h2⟩)
    go_ret
    exact ⟨by rw [hm.out]; rfl, h2⟩
  · have hm : Hid (mayL k s.data.toList = false) := by unfold Hid mayL; rw [if_neg (by omega), if_neg h1, if_neg h2, if_neg h3]
    have q1 : (k == 12) = false := by simpa using h1
    have q2 : (k == 19) = false := by simpa using h2
    have q3 : (k == 22) = false := by simpa using h3
    clear h1 h2 h3
    go_enter Tryz.func133, Tryz.ntmps133
    go_wp2
    go_ret
    exact ⟨by rw [hm.out]; rfl, Below.refl _ _⟩

set_option maxRecDepth 100000 in
theorem kind_any (s : ByteArray) (hs : s.size ≤ 140737488355328) (w : World) :
    Calls Tryz.prog 123 #[.string s] w fun e w' => e = .returned (.tuple #[.int .i64 (kindL s.data.toList).1, .int .i64 (kindL s.data.toList).2]) ∧ Below w.heap.size w w' := by
  have m19 := hide (fun W => may_any 19 s hs W)
  have m12 := hide (fun W => may_any 12 s hs W)
  have hk : Hid (kindL s.data.toList = if mayL 19 s.data.toList = true then (19, 0) else if mayL 12 s.data.toList = true then (12, 0) else (0, 50)) := rfl
  generalize kindL s.data.toList = K at hk ⊢
  generalize mayL 19 s.data.toList = A at hk m19
  generalize mayL 12 s.data.toList = B at hk m12
  cases A with
  | true =>
    obtain rfl : K = (19, 0) := hk.out
    go_enter Tryz.func123, Tryz.ntmps123
    go_wp2_with (go_at_call_of 133 (Value.int .i64 19); refine (m19.out _).mono ?_; rintro e w2 ⟨rfl, h2⟩)
    refine bodyPost_ret (v := .tuple #[.int .i64 19, .int .i64 0]) (by simp [results, Tryz.results123, go_sem]) rfl ⟨rfl, h2⟩
  | false =>
    cases B with
    | true =>
      obtain rfl : K = (12, 0) := hk.out
      go_enter Tryz.func123, Tryz.ntmps123
      go_wp2_with (first | (go_at_call_of 133 (Value.int .i64 19); refine (m19.out _).mono ?_; rintro e w2 ⟨rfl, h2⟩) | (go_at_call_of 133 (Value.int .i64 12); refine (m12.out _).mono ?_; rintro e w3 ⟨rfl, h3⟩))
      refine bodyPost_ret (v := .tuple #[.int .i64 12, .int .i64 0]) (by simp [results, Tryz.results123, go_sem]) rfl ⟨rfl, h2.trans (h3.mono h2.size)⟩
    | false =>
      obtain rfl : K = (0, 50) := hk.out
      go_enter Tryz.func123, Tryz.ntmps123
      go_wp2_with (first | (go_at_call_of 133 (Value.int .i64 19); refine (m19.out _).mono ?_; rintro e w2 ⟨rfl, h2⟩) | (go_at_call_of 133 (Value.int .i64 12); refine (m12.out _).mono ?_; rintro e w3 ⟨rfl, h3⟩))
      refine bodyPost_ret (v := .tuple #[.int .i64 0, .int .i64 50]) (by simp [results, Tryz.results123, go_sem]) rfl ⟨rfl, h2.trans (h3.mono h2.size)⟩

end Go.Proofs.YthnfhkmonfkceaaGreatDoor

namespace Go.Proofs.YthnfhkmonfkceaaGreatDoor
open Go.RowKit Go.Shelf Go.IntWalk
attribute [local go_sem] Oper.semAt_some

theorem clone_any (s : ByteArray) (hs : s.size ≤ 140737488355328) (w : World) :
    Calls Tryz.prog 53 #[.string s] w fun e w' => e = .returned (.string s) ∧ Below w.heap.size w w' := by
  have hC := hide (fun W => Tryz.stringslite_Clone s W (by omega))
  go_enter Tryz.func53, Tryz.ntmps53
  go_wp2_with (go_at_call 76; refine (hC.out _).mono ?_; rintro e w2 ⟨rfl, h2⟩)
  go_ret
  exact ⟨rfl, h2⟩

theorem grown_iterAt (w : World) (k : Nat) (s : ByteArray) (p : Nat) : w.grownBy (w.iterAt k s p) (some k) :=
  ⟨rfl, rfl, rfl, by rw [Lib.iterAt_size]; exact Nat.le_refl _, fun i _ hne => Lib.iterAt_other w k i s p (fun e => hne (by rw [e]))⟩

theorem cut_text (s : ByteArray) (a b : Nat) : s.extract a b = ⟨(cutL s.data.toList a b).toArray⟩ := by
  apply ByteArray.ext
  rw [ByteArray.data_extract]
  apply Array.ext'
  rw [Array.toList_extract]
  unfold cutL
  rw [List.drop_take]

theorem dec_blank (s : ByteArray) (p : Nat) (hp : p < s.size) (hb : (s[p]'hp) = 32) : Utf8.decode s p = (32, 1) := by
  have h := decode_ascii s p hp (by rw [hb]; decide)
  rw [hb] at h
  exact h

theorem dec_word (s : ByteArray) (p : Nat) (hp : p < s.size) (hb : (s[p]'hp) ≠ 32) :
    (Utf8.decode s p).1 ≠ 32 ∧ p + (Utf8.decode s p).2 ≤ s.size ∧ 1 ≤ (Utf8.decode s p).2 ∧ ∀ b ∈ (s.data.toList.drop p).take (Utf8.decode s p).2, b ≠ 32 := by
  have hL := len_at s p
  have hl : p < s.data.toList.length := by rw [Array.length_toList]; exact hp
  have b0 : (s[p]'hp).toNat = bt (s.data.toList.drop p) 0 := byte_at s p 0 hp
  by_cases h : (s[p]'hp).toNat < 128
  · rw [decode_ascii s p hp h]
    refine ⟨?_, by omega, Nat.le_refl _, ?_⟩
    · intro e
      apply hb
      apply UInt8.toNat_inj.1
      exact e
    · rw [List.drop_eq_getElem_cons hl]
      intro b hb2
      simp at hb2
      subst hb2
      exact hb
  · have hh := decode_high s p hp (by omega)
    have hle := charL_le (s.data.toList.drop p) (by omega)
    refine ⟨by have := hh.1; omega, ?_, hh.2, ?_⟩
    · rcases decode_char s p hp with ⟨_, h2⟩ | ⟨_, h2, _⟩
      · rw [h2]; show p + 1 ≤ s.size; omega
      · rw [h2]; omega
    · refine char_noblank _ _ (by omega) ?_
      rcases decode_char s p hp with ⟨_, h2⟩ | ⟨_, h2, _⟩
      · right; rw [h2]
      · left; exact h2

theorem get_list (s : ByteArray) (p : Nat) (hp : p < s.size) (hl : p < s.data.toList.length) : s.data.toList[p]'hl = s[p]'hp := by simp; rfl

end Go.Proofs.YthnfhkmonfkceaaGreatDoor

namespace Go.Proofs.YthnfhkmonfkceaaGreatDoor
open Go.RowKit Go.IntWalk

/-- The small letter of a great one. -/
def smallB (b : UInt8) : UInt8 := if 65 ≤ b.toNat ∧ b.toNat ≤ 90 then b + 32 else b
/-- What is laid, with one blank ahead of the next word. -/
def gap (acc : List UInt8) : List UInt8 := if acc.length = 0 then acc else acc ++ [32]
/-- What is laid of some words behind what lies. -/
def lay (acc : List UInt8) : List (List UInt8) → List UInt8
  | [] => acc
  | u :: ws => lay (gap acc ++ u.map smallB) ws
/-- A text as it is compared. -/
def foldL (l : List UInt8) : List UInt8 := lay [] (wordsL l)
/-- Bytes as numbers. -/
def nums (l : List UInt8) : List Int := l.map (fun b => (b.toNat : Int))

theorem gap_len (acc : List UInt8) : (gap acc).length ≤ acc.length + 1 := by unfold gap; split <;> simp

theorem lay_len : ∀ (ws : List (List UInt8)) (acc : List UInt8), (lay acc ws).length ≤ acc.length + spanW ws
  | [], acc => by simp [lay, spanW]
  | u :: ws, acc => by
    have h := lay_len ws (gap acc ++ u.map smallB)
    have g := gap_len acc
    rw [List.length_append, List.length_map] at h
    simp only [lay, spanW]
    omega

theorem nums_len (l : List UInt8) : (nums l).length = l.length := by simp [nums]
theorem nums_append (a b : List UInt8) : nums (a ++ b) = nums a ++ nums b := by simp [nums]
theorem nums_bytes (l : List UInt8) : ∀ x ∈ nums l, 0 ≤ x ∧ x < 256 := by
  intro x hx
  obtain ⟨b, _, rfl⟩ := List.mem_map.1 hx
  have := b.toNat_lt
  omega

theorem nums_text (l : List UInt8) : strOfNums (nums l) = ⟨l.toArray⟩ := by
  apply ByteArray.ext
  apply Array.ext'
  rw [strOfNums_data]
  unfold nums
  rw [List.map_map]
  show l.map _ = l
  conv => rhs; rw [← List.map_id l]
  apply List.map_congr_left
  intro b _
  show UInt8.ofNat ((b.toNat : Int).toNat) = b
  simp

theorem small_num (b : UInt8) : ((smallB b).toNat : Int) = if (65 : Int) ≤ (b.toNat : Int) ∧ (b.toNat : Int) ≤ 90 then (b.toNat : Int) + 32 else (b.toNat : Int) := by
  unfold smallB
  by_cases h : 65 ≤ b.toNat ∧ b.toNat ≤ 90
  · rw [if_pos h, if_pos (by omega), UInt8.toNat_add]
    have e : (32 : UInt8).toNat = 32 := rfl
    rw [e]
    omega
  · rw [if_neg h, if_neg (by omega)]

theorem take_nextI (u : List UInt8) (k : Nat) (h : k < u.length) : (u.take (k + 1)).map smallB = (u.take k).map smallB ++ [smallB (u[k]'h)] := by
  rw [List.take_succ_eq_append_getElem h, List.map_append]
  rfl

end Go.Proofs.YthnfhkmonfkceaaGreatDoor

namespace Go.Proofs.YthnfhkmonfkceaaGreatDoor
open Go.RowKit Go.Shelf Go.IntWalk
attribute [local go_sem] Oper.semAt_some

theorem OwnB.block {W : World} {base : Nat} {v : Value} {xs : List Int} (h : OwnB W base v xs) : ∀ k, v.ownBlock = some k → ∃ c f, W.heap[k]? = some (.cells c 5 f) := by
  intro k hk
  rcases h.2 with ⟨rfl, _⟩ | ⟨g, cap, cur, rfl, _, hg, _⟩
  · simp [Value.ownBlock] at hk
  · simp [Value.ownBlock] at hk
    subst hk
    exact ⟨cur, _, hg⟩

/-- The memory while Fold runs: the row, the variable, the text, the loop's block of deferred calls, its record, the iterator. -/
structure FSt (w : World) (sv : ByteArray) (lp : Loop) (acc : List UInt8) (v : Value) (io : Option Obj) (W : World) : Prop where
  loop : W.heap[w.heap.size + 4]? = some (.loop lp)
  dfr : W.heap[w.heap.size + 3]? = some (.deferred (some []))
  box : Boxed W (w.heap.size + 1) 43 v
  b2 : Boxed W (w.heap.size + 2) 9 (.string sv)
  row : OwnB W w.heap.size v (nums acc)
  nb : v.ownBlock ≠ some (w.heap.size + 5)
  it : ∀ o, io = some o → W.heap[w.heap.size + 5]? = some o
  bel : Below w.heap.size w W

theorem FSt.heap {w : World} {sv : ByteArray} {lp : Loop} {acc : List UInt8} {v : Value} {io : Option Obj} {W W' : World} (h : FSt w sv lp acc v io W) (d : Drawn W W') : FSt w sv lp acc v io W' :=
  ⟨by rw [d.heap]; exact h.loop, by rw [d.heap]; exact h.dfr, by unfold Boxed; rw [d.heap]; exact h.box, by unfold Boxed; rw [d.heap]; exact h.b2, h.row.heap d.heap, h.nb, fun o e => by rw [d.heap]; exact h.it o e, d.below h.bel⟩

theorem FSt.grown {w : World} {sv : ByteArray} {lp : Loop} {acc : List UInt8} {v : Value} {io : Option Obj} {W W' : World} (h : FSt w sv lp acc v io W) (g : W.grownBy W' (some (w.heap.size + 5))) : FSt w sv lp acc v none W' := by
  refine ⟨?_, ?_, h.box.kept g (by simp), h.b2.kept g (by simp), h.row.kept g (.inr h.nb), h.nb, fun o e => (by cases e), h.bel.grown g h.bel.size (by intro k e; cases e; omega)⟩
  · rw [g.block _ (Array.getElem?_eq_some_iff.1 h.loop).1 (by simp)]; exact h.loop
  · rw [g.block _ (Array.getElem?_eq_some_iff.1 h.dfr).1 (by simp)]; exact h.dfr

theorem FSt.tell {w : World} {sv : ByteArray} {lp : Loop} {acc : List UInt8} {v : Value} {io : Option Obj} {W : World} (h : FSt w sv lp acc v io W) (o : Obj) (ho : W.heap[w.heap.size + 5]? = some o) : FSt w sv lp acc v (some o) W :=
  ⟨h.loop, h.dfr, h.box, h.b2, h.row, h.nb, fun o' e => by cases e; exact ho, h.bel⟩

theorem FSt.put {w : World} {sv : ByteArray} {lp : Loop} {acc : List UInt8} {v : Value} {io : Option Obj} {W : World} (h : FSt w sv lp acc v io W) (lp' : Loop) : FSt w sv lp' acc v io (W.putObj (w.heap.size + 4) (.loop lp')) := by
  have hlt : w.heap.size + 4 < W.heap.size := (Array.getElem?_eq_some_iff.1 h.loop).1
  have g := grownBy_putObj' W (w.heap.size + 4) (.loop lp')
  refine ⟨World.putObj_heap_same hlt, (World.putObj_heap_other (by omega)).trans h.dfr, h.box.kept g (by simp), h.b2.kept g (by simp), h.row.kept g (.inr fun he => ?_), h.nb, fun o e => (World.putObj_heap_other (by omega)).trans (h.it o e), h.bel.grown g h.bel.size (by intro k e; cases e; omega)⟩
  obtain ⟨c, f, hc⟩ := h.row.block _ he
  rw [h.loop] at hc
  cases hc

/-- Bytes are appended, and the variable is written. -/
theorem FSt.append {w : World} {sv : ByteArray} {lp : Loop} {acc acc' : List UInt8} {v v' : Value} {s : ByteArray} {p : Nat} {W w2 : World} (h : FSt w sv lp acc v (some (.stringIter s p)) W) (o : Obj) (hg : (W.alloc o).grownBy w2 v.ownBlock) (ho : OwnB w2 w.heap.size v' (nums acc')) :
    FSt w sv lp acc' v' (some (.stringIter s p)) (w2.setCell ⟨w.heap.size + 1, 0, none⟩ v') := by
  have nbk : ∀ (k : Nat) (x : Obj), W.heap[k]? = some x → (∀ c f, x ≠ .cells c 5 f) → w2.heap[k]? = some x := by
    intro k x hx hn
    have hlt := (Array.getElem?_eq_some_iff.1 hx).1
    rw [hg.block k (by simp; omega) (fun he => ?_), Below.heap_alloc _ _ _ hlt]
    · exact hx
    · obtain ⟨c, f, hc⟩ := h.row.block k he.symm
      rw [hx] at hc
      cases hc
      exact hn _ _ rfl
  have nx : ∀ (B : Nat) (t : TypeId) (u : Value), t ≠ 5 → Boxed W B t u → Boxed w2 B t u := fun B t u ht hb => nbk B _ hb (by intro c f hc; cases hc; exact ht rfl)
  have a2 := nx _ _ _ (by decide) h.box
  have i2 := nbk _ _ (h.it _ rfl) (by intro c f hc; cases hc)
  refine ⟨?_, ?_, a2.set _, (nx _ _ _ (by decide) h.b2).other (by omega) _, ho.kept (grownBy_setCell' w2 (w.heap.size + 1) v') (.inr fun he => ?_), fun he => ?_, fun o' e => ?_, ?_⟩
  · rw [Below.heap_setCell _ _ _ _ (by simp)]; exact nbk _ _ h.loop (by intro c f hc; cases hc)
  · rw [Below.heap_setCell _ _ _ _ (by simp)]; exact nbk _ _ h.dfr (by intro c f hc; cases hc)
  · obtain ⟨c, f, hc⟩ := ho.block _ he
    have h3 : w2.heap[w.heap.size + 1]? = some (.cells #[v] 43 (0, 0)) := a2
    rw [h3] at hc
    cases hc
  · obtain ⟨c, f, hc⟩ := ho.block _ he
    rw [i2] at hc
    cases hc
  · cases e
    rw [Below.heap_setCell _ _ _ _ (by simp)]; exact i2
  · refine ((h.bel.alloc h.bel.size _).grown hg (by have := h.bel.size; simp; omega) (fun k hk => (h.row.lt k hk).1)).setCell (by simp) _

theorem FSt.boxed {w : World} {sv : ByteArray} {lp : Loop} {acc : List UInt8} {v : Value} {io : Option Obj} {W w2 : World} (h : FSt w sv lp acc v io W) (o : Obj) (hg : (W.alloc o).grownBy w2 v.ownBlock) : Boxed w2 (w.heap.size + 1) 43 v :=
  (h.box.alloc o).kept hg (h.box.not_row (by decide) h.row)

/-- The builtin append, under a name that the walk doesn't open. -/
def appOf (ats : Array TypeId) (ty : TypeId) (args : Array Value) : Sem Value := Builtin.append_ ats ty args
theorem appOf_of (ats : Array TypeId) (ty : TypeId) (args : Array Value) : Builtin.append_ ats ty args = appOf ats ty args := rfl

theorem app_byte {W : World} {base : Nat} {v : Value} {acc : List UInt8} (h : OwnB W base v (nums acc)) (N : UInt8) (hl : acc.length + 1 ≤ 140737488355328) (hbase : base ≤ W.heap.size) :
    ∃ g c w2, (appOf #[43, 43] 43 #[v, .slice (some ⟨W.heap.size, 0, none⟩) 1 1]).run Tryz.prog (W.alloc (.cells #[.int .u8 N.toNat] 5)) = .ok (.slice (some ⟨g, 0, none⟩) (acc.length + 1) c) w2 ∧
      OwnB w2 base (.slice (some ⟨g, 0, none⟩) (acc.length + 1) c) (nums (acc ++ [N])) ∧ (W.alloc (.cells #[.int .u8 N.toNat] 5)).grownBy w2 v.ownBlock := by
  have hN := N.toNat_lt
  have hs : Src (W.alloc (.cells #[.int .u8 N.toNat] 5)) (some ⟨W.heap.size, 0, none⟩) 1 1 [(N.toNat : Int)] := Src.litAt [(N.toNat : Int)] _ 1 _ rfl rfl (by intro x hx; simp at hx; subst hx; omega) (by decide) rfl
  obtain ⟨g, c', w', h1, h2, _, _, _, _, h3⟩ := run_appN (W.alloc (.cells #[.int .u8 N.toNat] 5)) 43 base v (nums acc) (h.alloc _) _ 1 1 [(N.toNat : Int)] hs (acc.length + 1) (by simp [nums]) (.inr (by simp)) hl (by simp; omega)
  exact ⟨g, c', w', h1, by rw [nums_append]; exact h2, h3⟩

end Go.Proofs.YthnfhkmonfkceaaGreatDoor

namespace Go.Proofs.YthnfhkmonfkceaaGreatDoor
open Go.RowKit Go.Shelf Go.IntWalk
attribute [local go_sem] Oper.semAt_some setCell_qN alloc_qN
attribute [local go_sem ↓] appOf_of

theorem nd_of (ops : List Oper) (h : ops.all noDefer = true) : ∀ (i : Nat) o, ops.toArray[i]? = some o → ∀ c, o.op ≠ .defer c := by
  intro i o ho c hc
  have h1 := List.all_eq_true.1 h o (by simp at ho; exact List.mem_of_getElem? ho)
  simp [noDefer, hc] at h1

/-- What holds between two words. -/
def FJ (w : World) (s : ByteArray) (lp : Loop) (ws : List (List UInt8)) (W : World) : Prop := ∃ acc aO cO, FSt w s lp acc (.slice aO acc.length cO) none W ∧ lay acc ws = foldL s.data.toList ∧ acc.length + spanW ws ≤ s.size + 1
def Never (_ : World) : Prop := False

end Go.Proofs.YthnfhkmonfkceaaGreatDoor

namespace Go.Proofs.YthnfhkmonfkceaaGreatDoor
open Go.RowKit Go.Shelf Go.IntWalk

theorem Tryz.own5 : ownKnob Tryz.prog.godebug = none := by kernel_rfl

/-- A text as it is compared. -/
def foldS (s : ByteArray) : ByteArray := ⟨(foldL s.data.toList).toArray⟩

theorem foldS_A : foldS ⟨#[65]⟩ = ⟨#[97]⟩ := by decide

theorem may_a (k : Int) (hk : k = 12 ∨ k = 19 ∨ k = 22) : mayL k [97] = true := by
  rcases hk with rfl | rfl | rfl <;> decide

end Go.Proofs.YthnfhkmonfkceaaGreatDoor

namespace Go.Proofs.YthnfhkmonfkceaaGreatDoor
open Go.RowKit

set_option maxRecDepth 100000 in
set_option maxHeartbeats 1000000 in
theorem size_any (n : Int) (w : World) :
    Calls Tryz.prog 138 #[.int .i64 n] w fun e w' => e = .returned (.int .i64 (sizeN n)) ∧ w' = w := by
  by_cases h0 : n < 0
  · have e1 : sizeN n = 0 := by unfold sizeN; rw [if_pos (.inl h0)]
    have E := hide e1
    clear e1
    go_enter Tryz.func138, Tryz.ntmps138
    go_wp2
    go_ret
    rw [unhide E]
    exact ⟨rfl, rfl⟩
  · by_cases h1 : 16777215 < n
    · have e1 : sizeN n = 0 := by unfold sizeN; rw [if_pos (.inr h1)]
      have E := hide e1
      clear e1
      go_enter Tryz.func138, Tryz.ntmps138
      go_wp2
      go_ret
      rw [unhide E]
      exact ⟨rfl, rfl⟩
    · by_cases h2 : n ≤ 127
      · have e1 : sizeN n = 2 := by unfold sizeN; rw [if_neg (by omega), if_pos h2]
        have E := hide e1
        clear e1
        go_enter Tryz.func138, Tryz.ntmps138
        go_wp2
        go_ret
        rw [unhide E]
        exact ⟨rfl, rfl⟩
      · by_cases h3 : n < 256
        · have e1 : sizeN n = 3 := by unfold sizeN; rw [if_neg (by omega), if_neg h2, if_pos h3]
          have E := hide e1
          clear e1
          go_enter Tryz.func138, Tryz.ntmps138
          go_wp2
          go_ret
          rw [unhide E]
          exact ⟨rfl, rfl⟩
        · by_cases h4 : n < 65536
          · have e1 : sizeN n = 4 := by unfold sizeN; rw [if_neg (by omega), if_neg h2, if_neg h3, if_pos h4]
            have E := hide e1
            clear e1
            go_enter Tryz.func138, Tryz.ntmps138
            go_wp2
            go_ret
            rw [unhide E]
            exact ⟨rfl, rfl⟩
          · have e1 : sizeN n = 5 := by unfold sizeN; rw [if_neg (by omega), if_neg h2, if_neg h3, if_neg h4]
            have E := hide e1
            clear e1
            go_enter Tryz.func138, Tryz.ntmps138
            go_wp2
            go_ret
            rw [unhide E]
            exact ⟨rfl, rfl⟩

end Go.Proofs.YthnfhkmonfkceaaGreatDoor
