/-
  text.Fold: the letters' call; the memory while it runs (FSt); how it is left.
  text.Fold lays what the document says.
  text.Fold and text.Same as calls; the statements' own call works answers true.
  What is folded stays as it is folded again, and is not longer; blanks make no difference. No program.
-/
import Derived.Test.YtgbbgfjamneioaaZTxP4ToTxF0
import Derived.Test.YtgbbgfjamneioaaZStepToRTag
import Derived.Test.YtgbbgfjamneioaaZOpenToMore
import Derived.Test.YtgbbgfjamneioaaZAllBaseToQRound
namespace Go.Proofs.Ytgbbgfjamneioaa
open Go.RowKit Go.Shelf Go.IntWalk
attribute [local go_sem] Oper.semAt_some

theorem OwnB.block {W : World} {base : Nat} {v : Value} {xs : List Int} (h : OwnB W base v xs) : ∀ k, v.ownBlock = some k → ∃ c f, W.heap[k]? = some (.cells c 5 f) := by
  intro k hk
  rcases h.2 with ⟨rfl, _⟩ | ⟨g, cap, cur, rfl, _, hg, _⟩
  · simp [Value.ownBlock] at hk
  · simp [Value.ownBlock] at hk
    subst hk
    exact ⟨cur, _, hg⟩

/-- The memory while Fold runs: the row, the variable, the text, the loop's block of deferred calls, its record, the iterator. -/
structure FSt (w : World) (sv : ByteArray) (lp : Loop) (acc : List UInt8) (v : Value) (io : Option Obj) (W : World) : Prop where
  loop : W.heap[w.heap.size + 4]? = some (.loop lp)
  dfr : W.heap[w.heap.size + 3]? = some (.deferred (some []))
  box : Boxed W (w.heap.size + 1) 22 v
  b2 : Boxed W (w.heap.size + 2) 9 (.string sv)
  row : OwnB W w.heap.size v (nums acc)
  nb : v.ownBlock ≠ some (w.heap.size + 5)
  it : ∀ o, io = some o → W.heap[w.heap.size + 5]? = some o
  bel : Below w.heap.size w W

theorem FSt.heap {w : World} {sv : ByteArray} {lp : Loop} {acc : List UInt8} {v : Value} {io : Option Obj} {W W' : World} (h : FSt w sv lp acc v io W) (d : Drawn W W') : FSt w sv lp acc v io W' :=
  ⟨by rw [d.heap]; exact h.loop, by rw [d.heap]; exact h.dfr, by unfold Boxed; rw [d.heap]; exact h.box, by unfold Boxed; rw [d.heap]; exact h.b2, h.row.heap d.heap, h.nb, fun o e => by rw [d.heap]; exact h.it o e, d.below h.bel⟩

theorem FSt.grown {w : World} {sv : ByteArray} {lp : Loop} {acc : List UInt8} {v : Value} {io : Option Obj} {W W' : World} (h : FSt w sv lp acc v io W) (g : W.grownBy W' (some (w.heap.size + 5))) : FSt w sv lp acc v none W' := by
  refine ⟨?_, ?_, h.box.kept g (by simp), h.b2.kept g (by simp), h.row.kept g (.inr h.nb), h.nb, fun o e => (by cases e), h.bel.grown g h.bel.size (by intro k e; cases e; omega)⟩
  · rw [g.block _ (Array.getElem?_eq_some_iff.1 h.loop).1 (by simp)]; exact h.loop
  · rw [g.block _ (Array.getElem?_eq_some_iff.1 h.dfr).1 (by simp)]; exact h.dfr

theorem FSt.tell {w : World} {sv : ByteArray} {lp : Loop} {acc : List UInt8} {v : Value} {io : Option Obj} {W : World} (h : FSt w sv lp acc v io W) (o : Obj) (ho : W.heap[w.heap.size + 5]? = some o) : FSt w sv lp acc v (some o) W :=
  ⟨h.loop, h.dfr, h.box, h.b2, h.row, h.nb, fun o' e => by cases e; exact ho, h.bel⟩

theorem FSt.put {w : World} {sv : ByteArray} {lp : Loop} {acc : List UInt8} {v : Value} {io : Option Obj} {W : World} (h : FSt w sv lp acc v io W) (lp' : Loop) : FSt w sv lp' acc v io (W.putObj (w.heap.size + 4) (.loop lp')) := by
  have hlt : w.heap.size + 4 < W.heap.size := (Array.getElem?_eq_some_iff.1 h.loop).1
  have g := grownBy_putObj' W (w.heap.size + 4) (.loop lp')
  refine ⟨World.putObj_heap_same hlt, (World.putObj_heap_other (by omega)).trans h.dfr, h.box.kept g (by simp), h.b2.kept g (by simp), h.row.kept g (.inr fun he => ?_), h.nb, fun o e => (World.putObj_heap_other (by omega)).trans (h.it o e), h.bel.grown g h.bel.size (by intro k e; cases e; omega)⟩
  obtain ⟨c, f, hc⟩ := h.row.block _ he
  rw [h.loop] at hc
  cases hc

/-- Bytes are appended, and the variable is written. -/
theorem FSt.append {w : World} {sv : ByteArray} {lp : Loop} {acc acc' : List UInt8} {v v' : Value} {s : ByteArray} {p : Nat} {W w2 : World} (h : FSt w sv lp acc v (some (.stringIter s p)) W) (o : Obj) (hg : (W.alloc o).grownBy w2 v.ownBlock) (ho : OwnB w2 w.heap.size v' (nums acc')) :
    FSt w sv lp acc' v' (some (.stringIter s p)) (w2.setCell ⟨w.heap.size + 1, 0, none⟩ v') := by
  have nbk : ∀ (k : Nat) (x : Obj), W.heap[k]? = some x → (∀ c f, x ≠ .cells c 5 f) → w2.heap[k]? = some x := by
    intro k x hx hn
    have hlt := (Array.getElem?_eq_some_iff.1 hx).1
    rw [hg.block k (by simp; omega) (fun he => ?_), Below.heap_alloc _ _ _ hlt]
    · exact hx
    · obtain ⟨c, f, hc⟩ := h.row.block k he.symm
      rw [hx] at hc
      cases hc
      exact hn _ _ rfl
  have nx : ∀ (B : Nat) (t : TypeId) (u : Value), t ≠ 5 → Boxed W B t u → Boxed w2 B t u := fun B t u ht hb => nbk B _ hb (by intro c f hc; cases hc; exact ht rfl)
  have a2 := nx _ _ _ (by decide) h.box
  have i2 := nbk _ _ (h.it _ rfl) (by intro c f hc; cases hc)
  refine ⟨?_, ?_, a2.set _, (nx _ _ _ (by decide) h.b2).other (by omega) _, ho.kept (grownBy_setCell' w2 (w.heap.size + 1) v') (.inr fun he => ?_), fun he => ?_, fun o' e => ?_, ?_⟩
  · rw [Below.heap_setCell _ _ _ _ (by simp)]; exact nbk _ _ h.loop (by intro c f hc; cases hc)
  · rw [Below.heap_setCell _ _ _ _ (by simp)]; exact nbk _ _ h.dfr (by intro c f hc; cases hc)
  · obtain ⟨c, f, hc⟩ := ho.block _ he
    have h3 : w2.heap[w.heap.size + 1]? = some (.cells #[v] 22 (0, 0)) := a2
    rw [h3] at hc
    cases hc
  · obtain ⟨c, f, hc⟩ := ho.block _ he
    rw [i2] at hc
    cases hc
  · cases e
    rw [Below.heap_setCell _ _ _ _ (by simp)]; exact i2
  · refine ((h.bel.alloc h.bel.size _).grown hg (by have := h.bel.size; simp; omega) (fun k hk => (h.row.lt k hk).1)).setCell (by simp) _

theorem FSt.boxed {w : World} {sv : ByteArray} {lp : Loop} {acc : List UInt8} {v : Value} {io : Option Obj} {W w2 : World} (h : FSt w sv lp acc v io W) (o : Obj) (hg : (W.alloc o).grownBy w2 v.ownBlock) : Boxed w2 (w.heap.size + 1) 22 v :=
  (h.box.alloc o).kept hg (h.box.not_row (by decide) h.row)

/-- The builtin append, under a name that the walk doesn't open. -/
def appOf (ats : Array TypeId) (ty : TypeId) (args : Array Value) : Sem Value := Builtin.append_ ats ty args
theorem appOf_of (ats : Array TypeId) (ty : TypeId) (args : Array Value) : Builtin.append_ ats ty args = appOf ats ty args := rfl

theorem app_byte {W : World} {base : Nat} {v : Value} {acc : List UInt8} (h : OwnB W base v (nums acc)) (N : UInt8) (hl : acc.length + 1 ≤ 140737488355328) (hbase : base ≤ W.heap.size) :
    ∃ g c w2, (appOf #[22, 22] 22 #[v, .slice (some ⟨W.heap.size, 0, none⟩) 1 1]).run Try.prog (W.alloc (.cells #[.int .u8 N.toNat] 5)) = .ok (.slice (some ⟨g, 0, none⟩) (acc.length + 1) c) w2 ∧
      OwnB w2 base (.slice (some ⟨g, 0, none⟩) (acc.length + 1) c) (nums (acc ++ [N])) ∧ (W.alloc (.cells #[.int .u8 N.toNat] 5)).grownBy w2 v.ownBlock := by
  have hN := N.toNat_lt
  have hs : Src (W.alloc (.cells #[.int .u8 N.toNat] 5)) (some ⟨W.heap.size, 0, none⟩) 1 1 [(N.toNat : Int)] := Src.litAt [(N.toNat : Int)] _ 1 _ rfl rfl (by intro x hx; simp at hx; subst hx; omega) (by decide) rfl
  obtain ⟨g, c', w', h1, h2, _, _, _, _, h3⟩ := run_appN (W.alloc (.cells #[.int .u8 N.toNat] 5)) 22 base v (nums acc) (h.alloc _) _ 1 1 [(N.toNat : Int)] hs (acc.length + 1) (by simp [nums]) (.inr (by simp)) hl (by simp; omega)
  exact ⟨g, c', w', h1, by rw [nums_append]; exact h2, h3⟩

end Go.Proofs.Ytgbbgfjamneioaa

namespace Go.Proofs.Ytgbbgfjamneioaa
open Go.RowKit Go.Shelf Go.IntWalk
attribute [local go_sem] Oper.semAt_some setCell_qN alloc_qN
attribute [local go_sem ↓] appOf_of

theorem nd_of (ops : List Oper) (h : ops.all noDefer = true) : ∀ (i : Nat) o, ops.toArray[i]? = some o → ∀ c, o.op ≠ .defer c := by
  intro i o ho c hc
  have h1 := List.all_eq_true.1 h o (by simp at ho; exact List.mem_of_getElem? ho)
  simp [noDefer, hc] at h1

/-- What holds between two words. -/
def FJ (w : World) (s : ByteArray) (lp : Loop) (ws : List (List UInt8)) (W : World) : Prop := ∃ acc aO cO, FSt w s lp acc (.slice aO acc.length cO) none W ∧ lay acc ws = foldL s.data.toList ∧ acc.length + spanW ws ≤ s.size + 1
def Never (_ : World) : Prop := False

end Go.Proofs.Ytgbbgfjamneioaa

namespace Go.Proofs.Ytgbbgfjamneioaa
open Go.RowKit Go.Shelf Go.IntWalk

theorem Try.own5 : ownKnob Try.prog.godebug = none := by kernel_rfl

/-- A text as it is compared. -/
def foldS (s : ByteArray) : ByteArray := ⟨(foldL s.data.toList).toArray⟩

theorem foldS_A : foldS ⟨#[65]⟩ = ⟨#[97]⟩ := by decide

theorem may_a (k : Int) (hk : k = 12 ∨ k = 19 ∨ k = 22) : mayL k [97] = true := by
  rcases hk with rfl | rfl | rfl <;> decide

end Go.Proofs.Ytgbbgfjamneioaa

namespace Go.Proofs.Ytgbbgfjamneioaa

theorem small_small (b : UInt8) : smallB (smallB b) = smallB b := by
  have h : ∀ n : Fin 256, smallB (smallB (UInt8.ofNat n.val)) = smallB (UInt8.ofNat n.val) := by decide +kernel
  have hb := b.toNat_lt
  have := h ⟨b.toNat, by omega⟩
  simpa using this

theorem small_blank (b : UInt8) (hb : b ≠ 32) : smallB b ≠ 32 := by
  have h : ∀ n : Fin 256, UInt8.ofNat n.val ≠ 32 → smallB (UInt8.ofNat n.val) ≠ 32 := by decide +kernel
  have hl := b.toNat_lt
  have := h ⟨b.toNat, by omega⟩
  simp only [UInt8.ofNat_toNat] at this
  exact this hb

/-- Words with one blank between. -/
def joinB : List (List UInt8) → List UInt8
  | [] => []
  | [u] => u
  | u :: v :: r => u ++ 32 :: joinB (v :: r)

theorem lay_join : ∀ (ws : List (List UInt8)) (acc : List UInt8), 0 < acc.length → (∀ u ∈ ws, 0 < u.length) → lay acc ws = joinB (acc :: ws.map (·.map smallB))
  | [], acc, _, _ => rfl
  | u :: ws, acc, ha, hw => by
    have hu := hw u (by simp)
    rw [lay, lay_join ws _ (by rw [List.length_append, List.length_map]; omega) (fun x hx => hw x (List.mem_cons_of_mem _ hx))]
    unfold gap
    rw [if_neg (by omega)]
    cases ws with
    | nil => simp [joinB]
    | cons v r => simp [joinB]

theorem fold_join (l : List UInt8) : foldL l = joinB ((wordsL l).map (·.map smallB)) := by
  unfold foldL
  have hp := wordsL_pos l
  cases h : wordsL l with
  | nil => rfl
  | cons u ws =>
    rw [h] at hp
    have hu := hp u (by simp)
    rw [lay, lay_join ws _ (by unfold gap; simp; omega) (fun x hx => hp x (List.mem_cons_of_mem _ hx))]
    simp [gap]

/-- No word has a blank. -/
theorem wordsG_noblank : ∀ (r cur : List UInt8), (∀ b ∈ cur, b ≠ 32) → ∀ u ∈ wordsG cur r, ∀ b ∈ u, b ≠ 32
  | [], cur, hc, u, hu => by
    rw [wordsG] at hu
    split at hu
    · cases hu
    · simp at hu; subst hu; exact hc
  | b :: r, cur, hc, u, hu => by
    rw [wordsG] at hu
    split at hu
    · split at hu
      · exact wordsG_noblank r [] (by simp) u hu
      · rcases List.mem_cons.1 hu with rfl | hu
        · exact hc
        · exact wordsG_noblank r [] (by simp) u hu
    · rename_i hb
      refine wordsG_noblank r (cur ++ [b]) ?_ u hu
      intro x hx
      rcases List.mem_append.1 hx with hx | hx
      · exact hc x hx
      · simp at hx; subst hx; exact hb

theorem words_of_join : ∀ (vs : List (List UInt8)), (∀ u ∈ vs, 0 < u.length ∧ ∀ b ∈ u, b ≠ 32) → wordsL (joinB vs) = vs
  | [], _ => rfl
  | [u], h => by
    have hu := h u (by simp)
    have h1 := wordsG_run u [] [] hu.2
    unfold wordsL
    rw [joinB]
    simp only [List.append_nil, List.nil_append] at h1
    rw [h1, wordsG, if_neg (by omega)]
  | u :: v :: r, h => by
    have hu := h u (by simp)
    have ih := words_of_join (v :: r) (fun x hx => h x (List.mem_cons_of_mem _ hx))
    unfold wordsL at ih ⊢
    rw [joinB, wordsG_run u _ [] hu.2, List.nil_append, wordsG, if_pos rfl, if_neg (by omega), ih]

theorem mapped_words (l : List UInt8) : ∀ u ∈ (wordsL l).map (·.map smallB), 0 < u.length ∧ ∀ b ∈ u, b ≠ 32 := by
  intro u hu
  obtain ⟨x, hx, rfl⟩ := List.mem_map.1 hu
  refine ⟨by rw [List.length_map]; exact wordsL_pos l x hx, ?_⟩
  intro b hb
  obtain ⟨y, hy, rfl⟩ := List.mem_map.1 hb
  exact small_blank y (wordsG_noblank l [] (by simp) x hx y hy)

theorem words_of_fold (l : List UInt8) : wordsL (foldL l) = (wordsL l).map (·.map smallB) := by
  rw [fold_join]
  exact words_of_join _ (mapped_words l)

/-- Fold of Fold is Fold. -/
theorem fold_fold (l : List UInt8) : foldL (foldL l) = foldL l := by
  rw [fold_join (foldL l), words_of_fold, fold_join l]
  congr 1
  rw [List.map_map]
  apply List.map_congr_left
  intro u _
  show (u.map smallB).map smallB = u.map smallB
  rw [List.map_map]
  apply List.map_congr_left
  intro b _
  exact small_small b

theorem join_map_len : ∀ vs : List (List UInt8), (joinB (vs.map (·.map smallB))).length = (joinB vs).length
  | [] => rfl
  | [u] => by simp [joinB]
  | u :: v :: r => by
    have ih := join_map_len (v :: r)
    simp only [List.map_cons, joinB, List.length_append, List.length_cons, List.length_map] at ih ⊢
    rw [ih]

theorem join_len : ∀ (r cur : List UInt8), (joinB (wordsG cur r)).length ≤ cur.length + r.length
  | [], cur => by
    rw [wordsG]
    split
    · simp [joinB]
    · simp [joinB]
  | b :: r, cur => by
    rw [wordsG, List.length_cons]
    split
    · have ih := join_len r []
      simp only [List.length_nil, Nat.zero_add] at ih
      split
      · omega
      · cases h : wordsG [] r with
        | nil => simp only [joinB]; omega
        | cons v t =>
          rw [h] at ih
          simp only [joinB, List.length_append, List.length_cons] at ih ⊢
          omega
    · have ih := join_len r (cur ++ [b])
      rw [List.length_append, List.length_singleton] at ih
      omega

theorem fold_len (l : List UInt8) : (foldL l).length ≤ l.length := by
  rw [fold_join, join_map_len]
  have := join_len l []
  simpa [wordsL] using this

/-- Texts with the same words are folded alike. -/
theorem fold_words (a b : List UInt8) (h : wordsL a = wordsL b) : foldL a = foldL b := by rw [fold_join, fold_join, h]

/-- The words of what is joined by a blank. -/
theorem words_cat : ∀ (a b cur : List UInt8), wordsG cur (a ++ 32 :: b) = wordsG cur a ++ wordsL b
  | [], b, cur => by
    simp only [List.nil_append, wordsG, if_true, wordsL]
    split <;> rfl
  | x :: a, b, cur => by
    rw [List.cons_append, wordsG, wordsG]
    split
    · split
      · exact words_cat a b []
      · rw [words_cat a b []]; rfl
    · exact words_cat a b _

theorem words_ahead : ∀ (n : Nat) (l : List UInt8), wordsL (List.replicate n 32 ++ l) = wordsL l
  | 0, l => rfl
  | n + 1, l => by
    have ih := words_ahead n l
    rw [List.replicate_succ, List.cons_append]
    unfold wordsL at ih ⊢
    rw [wordsG, if_pos rfl, if_pos List.length_nil]
    exact ih

theorem words_blanks (n : Nat) : wordsL (List.replicate n 32) = [] := by
  have := words_ahead n []
  rw [List.append_nil] at this
  rw [this]
  rfl

/-- Blanks between. -/
theorem words_between (n : Nat) (a b : List UInt8) : wordsL (a ++ (List.replicate (n + 1) 32 ++ b)) = wordsL (a ++ 32 :: b) := by
  rw [List.replicate_succ, List.cons_append]
  unfold wordsL
  rw [words_cat, words_cat, words_ahead]

/-- Blanks behind. -/
theorem words_behind (n : Nat) (a : List UInt8) : wordsL (a ++ List.replicate (n + 1) 32) = wordsL a := by
  have h := words_between n a []
  rw [List.append_nil] at h
  rw [h]
  unfold wordsL
  rw [words_cat]
  simp [wordsL, wordsG]

end Go.Proofs.Ytgbbgfjamneioaa
