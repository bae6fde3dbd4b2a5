/-
  A text as it is compared: what is laid of its words. No program, but for the letters' call.
  text.Fold: the letters' call; the memory while it runs (FSt); how it is left.
-/
import Derived.Test.YtgbbgfjamneioaaDoorXAllsMToTxV1
import Derived.Test.YtgbbgfjamneioaaDoorXBaseToBts
import Derived.Test.YtgbbgfjamneioaaDoorXTxW1
import Derived.Test.YtgbbgfjamneioaaDoorXOneToLent
import Derived.Test.YtgbbgfjamneioaaDoorXMoreToNextS
import Derived.Test.YtgbbgfjamneioaaDoorXDecSToQRound
namespace Go.Proofs.YtgbbgfjamneioaaDoor
open Go.RowKit Go.IntWalk

/-- The small letter of a great one. -/
def smallB (b : UInt8) : UInt8 := if 65 ≤ b.toNat ∧ b.toNat ≤ 90 then b + 32 else b
/-- What is laid, with one blank ahead of the next word. -/
def gap (acc : List UInt8) : List UInt8 := if acc.length = 0 then acc else acc ++ [32]
/-- What is laid of some words behind what lies. -/
def lay (acc : List UInt8) : List (List UInt8) → List UInt8
  | [] => acc
  | u :: ws => lay (gap acc ++ u.map smallB) ws
/-- A text as it is compared. -/
def foldL (l : List UInt8) : List UInt8 := lay [] (wordsL l)
/-- Bytes as numbers. -/
def nums (l : List UInt8) : List Int := l.map (fun b => (b.toNat : Int))

theorem gap_len (acc : List UInt8) : (gap acc).length ≤ acc.length + 1 := by unfold gap; split <;> simp

theorem lay_len : ∀ (ws : List (List UInt8)) (acc : List UInt8), (lay acc ws).length ≤ acc.length + spanW ws
  | [], acc => by simp [lay, spanW]
  | u :: ws, acc => by
    have h := lay_len ws (gap acc ++ u.map smallB)
    have g := gap_len acc
    rw [List.length_append, List.length_map] at h
    simp only [lay, spanW]
    omega

theorem nums_len (l : List UInt8) : (nums l).length = l.length := by simp [nums]
theorem nums_append (a b : List UInt8) : nums (a ++ b) = nums a ++ nums b := by simp [nums]
theorem nums_bytes (l : List UInt8) : ∀ x ∈ nums l, 0 ≤ x ∧ x < 256 := by
  intro x hx
  obtain ⟨b, _, rfl⟩ := List.mem_map.1 hx
  have := b.toNat_lt
  omega

theorem nums_text (l : List UInt8) : strOfNums (nums l) = ⟨l.toArray⟩ := by
  apply ByteArray.ext
  apply Array.ext'
  rw [strOfNums_data]
  unfold nums
  rw [List.map_map]
  show l.map _ = l
  conv => rhs; rw [← List.map_id l]
  apply List.map_congr_left
  intro b _
  show UInt8.ofNat ((b.toNat : Int).toNat) = b
  simp

theorem small_num (b : UInt8) : ((smallB b).toNat : Int) = if (65 : Int) ≤ (b.toNat : Int) ∧ (b.toNat : Int) ≤ 90 then (b.toNat : Int) + 32 else (b.toNat : Int) := by
  unfold smallB
  by_cases h : 65 ≤ b.toNat ∧ b.toNat ≤ 90
  · rw [if_pos h, if_pos (by omega), UInt8.toNat_add]
    have e : (32 : UInt8).toNat = 32 := rfl
    rw [e]
    omega
  · rw [if_neg h, if_neg (by omega)]

theorem take_nextI (u : List UInt8) (k : Nat) (h : k < u.length) : (u.take (k + 1)).map smallB = (u.take k).map smallB ++ [smallB (u[k]'h)] := by
  rw [List.take_succ_eq_append_getElem h, List.map_append]
  rfl

end Go.Proofs.YtgbbgfjamneioaaDoor

namespace Go.Proofs.YtgbbgfjamneioaaDoor
open Go.RowKit Go.Shelf Go.IntWalk
attribute [local go_sem] Oper.semAt_some

set_option maxRecDepth 100000 in
theorem small_any (b : UInt8) (w : World) :
    Calls Tryd.prog 114 #[.int .u8 b.toNat] w fun e w' => e = .returned (.int .u8 ((smallB b).toNat)) ∧ w' = w := by
  have hb := b.toNat_lt
  have hS := hide (small_num b)
  generalize ((smallB b).toNat : Int) = S at hS ⊢
  generalize b.toNat = n at *
  go_enter Tryd.func114, Tryd.ntmps114
  go_wp2
  all_goals go_ret
  all_goals refine ⟨?_, rfl⟩
  all_goals rw [hS.out]
  all_goals first
    | (rw [if_pos (by omega)]; rfl)
    | (rw [if_neg (by omega)]; rfl)
    | (rw [if_pos (by omega)]; show Ending.returned (Value.int .u8 _) = _; congr 2; rw [IntKind.wrap_u8]; omega)

theorem OwnB.block {W : World} {base : Nat} {v : Value} {xs : List Int} (h : OwnB W base v xs) : ∀ k, v.ownBlock = some k → ∃ c f, W.heap[k]? = some (.cells c 5 f) := by
  intro k hk
  rcases h.2 with ⟨rfl, _⟩ | ⟨g, cap, cur, rfl, _, hg, _⟩
  · simp [Value.ownBlock] at hk
  · simp [Value.ownBlock] at hk
    subst hk
    exact ⟨cur, _, hg⟩

/-- The memory while Fold runs: the row, the variable, the text, the loop's block of deferred calls, its record, the iterator. -/
structure FSt (w : World) (sv : ByteArray) (lp : Loop) (acc : List UInt8) (v : Value) (io : Option Obj) (W : World) : Prop where
  loop : W.heap[w.heap.size + 4]? = some (.loop lp)
  dfr : W.heap[w.heap.size + 3]? = some (.deferred (some []))
  box : Boxed W (w.heap.size + 1) 25 v
  b2 : Boxed W (w.heap.size + 2) 9 (.string sv)
  row : OwnB W w.heap.size v (nums acc)
  nb : v.ownBlock ≠ some (w.heap.size + 5)
  it : ∀ o, io = some o → W.heap[w.heap.size + 5]? = some o
  bel : Below w.heap.size w W

theorem FSt.heap {w : World} {sv : ByteArray} {lp : Loop} {acc : List UInt8} {v : Value} {io : Option Obj} {W W' : World} (h : FSt w sv lp acc v io W) (d : Drawn W W') : FSt w sv lp acc v io W' :=
  ⟨by rw [d.heap]; exact h.loop, by rw [d.heap]; exact h.dfr, by unfold Boxed; rw [d.heap]; exact h.box, by unfold Boxed; rw [d.heap]; exact h.b2, h.row.heap d.heap, h.nb, fun o e => by rw [d.heap]; exact h.it o e, d.below h.bel⟩

theorem FSt.grown {w : World} {sv : ByteArray} {lp : Loop} {acc : List UInt8} {v : Value} {io : Option Obj} {W W' : World} (h : FSt w sv lp acc v io W) (g : W.grownBy W' (some (w.heap.size + 5))) : FSt w sv lp acc v none W' := by
  refine ⟨?_, ?_, h.box.kept g (by simp), h.b2.kept g (by simp), h.row.kept g (.inr h.nb), h.nb, fun o e => (by cases e), h.bel.grown g h.bel.size (by intro k e; cases e; omega)⟩
  · rw [g.block _ (Array.getElem?_eq_some_iff.1 h.loop).1 (by simp)]; exact h.loop
  · rw [g.block _ (Array.getElem?_eq_some_iff.1 h.dfr).1 (by simp)]; exact h.dfr

theorem FSt.tell {w : World} {sv : ByteArray} {lp : Loop} {acc : List UInt8} {v : Value} {io : Option Obj} {W : World} (h : FSt w sv lp acc v io W) (o : Obj) (ho : W.heap[w.heap.size + 5]? = some o) : FSt w sv lp acc v (some o) W :=
  ⟨h.loop, h.dfr, h.box, h.b2, h.row, h.nb, fun o' e => by cases e; exact ho, h.bel⟩

theorem FSt.put {w : World} {sv : ByteArray} {lp : Loop} {acc : List UInt8} {v : Value} {io : Option Obj} {W : World} (h : FSt w sv lp acc v io W) (lp' : Loop) : FSt w sv lp' acc v io (W.putObj (w.heap.size + 4) (.loop lp')) := by
  have hlt : w.heap.size + 4 < W.heap.size := (Array.getElem?_eq_some_iff.1 h.loop).1
  have g := grownBy_putObj' W (w.heap.size + 4) (.loop lp')
  refine ⟨World.putObj_heap_same hlt, (World.putObj_heap_other (by omega)).trans h.dfr, h.box.kept g (by simp), h.b2.kept g (by simp), h.row.kept g (.inr fun he => ?_), h.nb, fun o e => (World.putObj_heap_other (by omega)).trans (h.it o e), h.bel.grown g h.bel.size (by intro k e; cases e; omega)⟩
  obtain ⟨c, f, hc⟩ := h.row.block _ he
  rw [h.loop] at hc
  cases hc

/-- Bytes are appended, and the variable is written. -/
theorem FSt.append {w : World} {sv : ByteArray} {lp : Loop} {acc acc' : List UInt8} {v v' : Value} {s : ByteArray} {p : Nat} {W w2 : World} (h : FSt w sv lp acc v (some (.stringIter s p)) W) (o : Obj) (hg : (W.alloc o).grownBy w2 v.ownBlock) (ho : OwnB w2 w.heap.size v' (nums acc')) :
    FSt w sv lp acc' v' (some (.stringIter s p)) (w2.setCell ⟨w.heap.size + 1, 0, none⟩ v') := by
  have nbk : ∀ (k : Nat) (x : Obj), W.heap[k]? = some x → (∀ c f, x ≠ .cells c 5 f) → w2.heap[k]? = some x := by
    intro k x hx hn
    have hlt := (Array.getElem?_eq_some_iff.1 hx).1
    rw [hg.block k (by simp; omega) (fun he => ?_), Below.heap_alloc _ _ _ hlt]
    · exact hx
    · obtain ⟨c, f, hc⟩ := h.row.block k he.symm
      rw [hx] at hc
      cases hc
      exact hn _ _ rfl
  have nx : ∀ (B : Nat) (t : TypeId) (u : Value), t ≠ 5 → Boxed W B t u → Boxed w2 B t u := fun B t u ht hb => nbk B _ hb (by intro c f hc; cases hc; exact ht rfl)
  have a2 := nx _ _ _ (by decide) h.box
  have i2 := nbk _ _ (h.it _ rfl) (by intro c f hc; cases hc)
  refine ⟨?_, ?_, a2.set _, (nx _ _ _ (by decide) h.b2).other (by omega) _, ho.kept (grownBy_setCell' w2 (w.heap.size + 1) v') (.inr fun he => ?_), fun he => ?_, fun o' e => ?_, ?_⟩
  · rw [Below.heap_setCell _ _ _ _ (by simp)]; exact nbk _ _ h.loop (by intro c f hc; cases hc)
  · rw [Below.heap_setCell _ _ _ _ (by simp)]; exact nbk _ _ h.dfr (by intro c f hc; cases hc)
  · obtain ⟨c, f, hc⟩ := ho.block _ he
    have h3 : w2.heap[w.heap.size + 1]? = some (.cells #[v] 25 (0, 0)) := a2
    rw [h3] at hc
    cases hc
  · obtain ⟨c, f, hc⟩ := ho.block _ he
    rw [i2] at hc
    cases hc
  · cases e
    rw [Below.heap_setCell _ _ _ _ (by simp)]; exact i2
  · refine ((h.bel.alloc h.bel.size _).grown hg (by have := h.bel.size; simp; omega) (fun k hk => (h.row.lt k hk).1)).setCell (by simp) _

theorem FSt.boxed {w : World} {sv : ByteArray} {lp : Loop} {acc : List UInt8} {v : Value} {io : Option Obj} {W w2 : World} (h : FSt w sv lp acc v io W) (o : Obj) (hg : (W.alloc o).grownBy w2 v.ownBlock) : Boxed w2 (w.heap.size + 1) 25 v :=
  (h.box.alloc o).kept hg (h.box.not_row (by decide) h.row)

/-- The builtin append, under a name that the walk doesn't open. -/
def appOf (ats : Array TypeId) (ty : TypeId) (args : Array Value) : Sem Value := Builtin.append_ ats ty args
theorem appOf_of (ats : Array TypeId) (ty : TypeId) (args : Array Value) : Builtin.append_ ats ty args = appOf ats ty args := rfl

theorem app_byte {W : World} {base : Nat} {v : Value} {acc : List UInt8} (h : OwnB W base v (nums acc)) (N : UInt8) (hl : acc.length + 1 ≤ 140737488355328) (hbase : base ≤ W.heap.size) :
    ∃ g c w2, (appOf #[25, 25] 25 #[v, .slice (some ⟨W.heap.size, 0, none⟩) 1 1]).run Tryd.prog (W.alloc (.cells #[.int .u8 N.toNat] 5)) = .ok (.slice (some ⟨g, 0, none⟩) (acc.length + 1) c) w2 ∧
      OwnB w2 base (.slice (some ⟨g, 0, none⟩) (acc.length + 1) c) (nums (acc ++ [N])) ∧ (W.alloc (.cells #[.int .u8 N.toNat] 5)).grownBy w2 v.ownBlock := by
  have hN := N.toNat_lt
  have hs : Src (W.alloc (.cells #[.int .u8 N.toNat] 5)) (some ⟨W.heap.size, 0, none⟩) 1 1 [(N.toNat : Int)] := Src.litAt [(N.toNat : Int)] _ 1 _ rfl rfl (by intro x hx; simp at hx; subst hx; omega) (by decide) rfl
  obtain ⟨g, c', w', h1, h2, _, _, _, _, h3⟩ := run_appN (W.alloc (.cells #[.int .u8 N.toNat] 5)) 25 base v (nums acc) (h.alloc _) _ 1 1 [(N.toNat : Int)] hs (acc.length + 1) (by simp [nums]) (.inr (by simp)) hl (by simp; omega)
  exact ⟨g, c', w', h1, by rw [nums_append]; exact h2, h3⟩

set_option maxRecDepth 100000 in
/-- How Fold is left: the loop's mark. -/
theorem fold_leave (w : World) (sv : ByteArray) (lp : Loop) (acc : List UInt8) (v : Value) (io : Option Obj) (W : World) (tmps : Array Value) (x : ByteArray)
    (ht : tmps[2]? = some (.string x)) (hD : FSt w sv lp acc v io W) :
    LeavesInM Fence.wide 4 Tryd.prog Tryd.f102 tmps (fun e w' => e = .returned (.string x) ∧ Below w.heap.size w w') [{ target := .collected (w.heap.size + 3), args := #[] }] .returning W := by
  refine ⟨by simp, .inl ⟨_, _, rfl, run_takeDeferred hD.dfr, ?_⟩⟩
  exact ⟨.string x, by simp [results, Tryd.results102, ht, Array.getD_eq_getD_getElem?], rfl, hD.bel.grown (grownBy_putObj' W (w.heap.size + 3) (.deferred none)) hD.bel.size (by intro k e; cases e; omega)⟩

end Go.Proofs.YtgbbgfjamneioaaDoor
