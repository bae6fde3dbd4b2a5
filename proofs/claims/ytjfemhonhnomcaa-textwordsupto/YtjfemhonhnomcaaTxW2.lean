/-
  The memory while TextWords runs: what it keeps in variables (WA), and its loops' records and marks (WL).
-/
import Derived.Test.YtjfemhonhnomcaaTxL0
import Derived.Test.YtjfemhonhnomcaaTxR1
namespace Go.Proofs.Ytjfemhonhnomcaa
open Go.RowKit Go.Shelf Go.IntWalk

structure WA (w : World) (Wb Nb : Nat) (lv : Int) (s : ByteArray) (vW : Value) (ws : List (List UInt8)) (k : Int) (W : World) : Prop where
  leave : Boxed W w.heap.size 3 (.int .i64 lv)
  res : Boxed W (w.heap.size + 1) 4 (.bool false)
  bs : Boxed W (w.heap.size + 1 + 1) 9 (.string s)
  wb : Boxed W Wb 36 vW
  nb : Boxed W Nb 3 (.int .i64 k)
  row : OwnS W w.heap.size vW (texts ws)
  o : w.heap.size + 2 < Wb ∧ Wb < Nb ∧ ∀ j, vW.ownBlock = some j → j < Wb
  bel : Below w.heap.size w W

theorem WA.kept {w : World} {Wb Nb : Nat} {lv : Int} {s : ByteArray} {vW : Value} {ws : List (List UInt8)} {k : Int} {W W' : World} (h : WA w Wb Nb lv s vW ws k W) {B : Nat} (g : W.grownBy W' (some B)) (hB : Nb < B) : WA w Wb Nb lv s vW ws k W' := by
  obtain ⟨o1, o2, o3⟩ := h.o
  refine ⟨h.leave.kept g (by simp; omega), h.res.kept g (by simp; omega), h.bs.kept g (by simp; omega), h.wb.kept g (by simp; omega), h.nb.kept g (by simp; omega), World.ownsRow.kept h.row g (.inr fun e => ?_), h.o, h.bel.grown g h.bel.size (by intro j e; cases e; omega)⟩
  have := o3 _ e
  omega

theorem WA.setN {w : World} {Wb Nb : Nat} {lv : Int} {s : ByteArray} {vW : Value} {ws : List (List UInt8)} {k : Int} {W : World} (h : WA w Wb Nb lv s vW ws k W) (k' : Int) : WA w Wb Nb lv s vW ws k' (W.setCell ⟨Nb, 0, none⟩ (.int .i64 k')) := by
  obtain ⟨o1, o2, o3⟩ := h.o
  refine ⟨h.leave.other (by omega) _, h.res.other (by omega) _, h.bs.other (by omega) _, h.wb.other (by omega) _, h.nb.set _, World.ownsRow.kept h.row (grownBy_setCell' W Nb (.int .i64 k')) (.inr fun e => ?_), h.o, h.bel.setCell (by simp; omega) _⟩
  have := o3 _ e
  omega

structure WL (lp : Loop) (l : Nat) (Ds : List Nat) (w : World) (Wb Nb : Nat) (lv : Int) (s : ByteArray) (vW : Value) (ws : List (List UInt8)) (k : Int) (W : World) : Prop where
  ai : WA w Wb Nb lv s vW ws k W
  loop : W.heap[l]? = some (.loop lp)
  dfr : ∀ D ∈ Ds, W.heap[D]? = some (.deferred (some []))
  od : ∀ D ∈ Ds, Nb < D ∧ D < l
  ol : Nb < l

theorem WL.kept {lp : Loop} {l : Nat} {Ds : List Nat} {w : World} {Wb Nb : Nat} {lv : Int} {s : ByteArray} {vW : Value} {ws : List (List UInt8)} {k : Int} {W W' : World} (h : WL lp l Ds w Wb Nb lv s vW ws k W) {B : Nat} (g : W.grownBy W' (some B)) (hB : l < B) : WL lp l Ds w Wb Nb lv s vW ws k W' := by
  refine ⟨h.ai.kept g (by have := h.ol; omega), ?_, fun D hD => ?_, h.od, h.ol⟩
  · rw [g.block _ (Array.getElem?_eq_some_iff.1 h.loop).1 (by simp; omega)]; exact h.loop
  · have := h.od D hD
    rw [g.block _ (Array.getElem?_eq_some_iff.1 (h.dfr D hD)).1 (by simp; omega)]; exact h.dfr D hD

theorem WL.put {lp : Loop} {l : Nat} {Ds : List Nat} {w : World} {Wb Nb : Nat} {lv : Int} {s : ByteArray} {vW : Value} {ws : List (List UInt8)} {k : Int} {W : World} (h : WL lp l Ds w Wb Nb lv s vW ws k W) (lp' : Loop) : WL lp' l Ds w Wb Nb lv s vW ws k (W.putObj l (.loop lp')) := by
  have hlt : l < W.heap.size := (Array.getElem?_eq_some_iff.1 h.loop).1
  refine ⟨h.ai.kept (grownBy_putObj' W l (.loop lp')) h.ol, World.putObj_heap_same hlt, fun D hD => ?_, h.od, h.ol⟩
  have := h.od D hD
  exact (World.putObj_heap_other (by omega)).trans (h.dfr D hD)

theorem WL.setN {lp : Loop} {l : Nat} {Ds : List Nat} {w : World} {Wb Nb : Nat} {lv : Int} {s : ByteArray} {vW : Value} {ws : List (List UInt8)} {k : Int} {W : World} (h : WL lp l Ds w Wb Nb lv s vW ws k W) (k' : Int) : WL lp l Ds w Wb Nb lv s vW ws k' (W.setCell ⟨Nb, 0, none⟩ (.int .i64 k')) := by
  refine ⟨h.ai.setN k', ?_, fun D hD => ?_, h.od, h.ol⟩
  · rw [Below.heap_setCell _ _ _ _ (by have := h.ol; simp; omega)]; exact h.loop
  · have := h.od D hD
    rw [Below.heap_setCell _ _ _ _ (by simp; omega)]; exact h.dfr D hD

theorem WL.enter {Ds : List Nat} {w : World} {Wb Nb : Nat} {lv : Int} {s : ByteArray} {vW : Value} {ws : List (List UInt8)} {k : Int} {W : World} (h : WA w Wb Nb lv s vW ws k W) (hd : ∀ D ∈ Ds, W.heap[D]? = some (.deferred (some [])) ∧ Nb < D) (lp : Loop) :
    WL lp (W.heap.size + 1) (W.heap.size :: Ds) w Wb Nb lv s vW ws k ((W.alloc (.deferred (some []))).alloc (.loop lp)) := by
  have hn := h.nb.lt
  have g : W.grownBy ((W.alloc (.deferred (some []))).alloc (.loop lp)) (some W.heap.size) := grown_trans (World.grownBy_alloc W _ _) (World.grownBy_alloc _ _ _)
  refine ⟨h.kept g hn, ?_, fun D hD => ?_, fun D hD => ?_, by omega⟩
  · have := World.alloc_heap_new (W.alloc (.deferred (some []))) (.loop lp); rwa [World.size_alloc] at this
  · rcases List.mem_cons.1 hD with rfl | hD
    · rw [Below.heap_alloc _ _ _ (by simp)]; exact World.alloc_heap_new W _
    · have h1 := (hd D hD).1
      have hlt := (Array.getElem?_eq_some_iff.1 h1).1
      rw [Below.heap_alloc _ _ _ (by simp; omega), Below.heap_alloc _ _ _ hlt]
      exact h1
  · rcases List.mem_cons.1 hD with rfl | hD
    · exact ⟨hn, by omega⟩
    · have h1 := hd D hD
      have hlt := (Array.getElem?_eq_some_iff.1 h1.1).1
      exact ⟨h1.2, by omega⟩

set_option maxRecDepth 100000 in
/-- How the law is left: the two loops' marks; the answer is what the variable holds. -/
theorem words_leave (w W : World) (tmps : Array Value) (D1 D2 : Nat) (hne : D1 ≠ D2) (ht : tmps[4]? = some (.pointer (some ⟨w.heap.size + 1, 0, none⟩))) (h2 : W.heap[D2]? = some (.deferred (some []))) (h1 : W.heap[D1]? = some (.deferred (some [])))
    (bR : Boxed W (w.heap.size + 1) 4 (.bool true)) (hB : Below w.heap.size w W) (o1 : w.heap.size + 1 < D1) (o2 : w.heap.size + 1 < D2) :
    LeavesInM Fence.wide 5 Try.prog Try.f6 tmps (fun e w' => e = .returned (.bool true) ∧ Below w.heap.size w w') [{ target := .collected D2, args := #[] }, { target := .collected D1, args := #[] }] .returning W := by
  have h1' : (W.putObj D2 (.deferred none)).heap[D1]? = some (.deferred (some [])) := (World.putObj_heap_other hne).trans h1
  have b1 := (bR.kept (grownBy_putObj' W D2 (.deferred none)) (by simp; omega)).kept (grownBy_putObj' _ D1 (.deferred none)) (by simp; omega)
  have B1 := hB.grown (grownBy_putObj' W D2 (.deferred none)) hB.size (by intro k e; cases e; omega)
  have B2 := B1.grown (grownBy_putObj' _ D1 (.deferred none)) B1.size (by intro k e; cases e; omega)
  have c1 := b1.cell
  refine ⟨by simp, .inl ⟨_, _, rfl, run_takeDeferred h2, by simp, .inl ⟨_, _, rfl, run_takeDeferred h1', ?_⟩⟩⟩
  exact ⟨.bool true, by simp [results, Try.results6, go_sem, ht, c1, Array.getD_eq_getD_getElem?], rfl, B2⟩

theorem drop_word {l r : List (List UInt8)} {k : Nat} {x : List UInt8} (h : l.drop k = x :: r) : ∃ hk : k < l.length, l[k]'hk = x ∧ l.drop (k + 1) = r := by
  have hk : k < l.length := by
    rcases Nat.lt_or_ge k l.length with h' | h'
    · exact h'
    · rw [List.drop_eq_nil_of_le h'] at h; cases h
  rw [List.drop_eq_getElem_cons hk] at h
  exact ⟨hk, (List.cons.inj h).1, (List.cons.inj h).2⟩

end Go.Proofs.Ytjfemhonhnomcaa
