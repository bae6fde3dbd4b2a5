/-
  What lies about der.All's loop: its variables, what a round does to them.
  der.Each: a function over a copy of the bytes.
  A range over a function, in three steps of its own, so that the function may also give up: the statement is entered; a round; how it ends is told by the library's rangePost. No program.
  A region that draws its order within a round of a range over a function: where no operation of it defers, it goes as outside of rounds; so one walk in the order of the text serves. No program.
-/
import Derived.Maps.AppendAt
import Derived.RangeFuncBox
import Derived.Test.YtgbbgfjamneioaaDoorYElemToSpans
import Derived.Test.YtgbbgfjamneioaaDoorYMoreToFind
import Derived.RangeFuncNested
import Derived.RangeFuncIn
import Derived.RangeFuncRecord
import Derived.Test.YtgbbgfjamneioaaDoorYBaseToBts
import Derived.Sort.QuietTacIn
import Derived.RangeFuncCalls
namespace Go.Proofs.YtgbbgfjamneioaaDoor
open Go.RowKit Go.Shelf Go.IntWalk
attribute [local go_sem] Oper.semAt_some

/-- The builtin append, under a name that the walk doesn't open. -/
def appOfD (ats : Array TypeId) (ty : TypeId) (args : Array Value) : Sem Value := Builtin.append_ ats ty args
theorem appOfD_of (ats : Array TypeId) (ty : TypeId) (args : Array Value) : Builtin.append_ ats ty args = appOfD ats ty args := rfl
attribute [local go_sem ↓] appOfD_of

theorem Tryd.infoE : (Tryd.prog.info? 68).map (fun i => (i.zero, i.size, i.bytes)) = some (some (.agg #[.int .i64 0, .slice none 0 0]), 2, 32) := by kernel_rfl

theorem row_kept {W W' : World} {row : Option Nat} {base : Nat} {e : TypeId} {size : Nat} {v : Value} {k : Nat} {xs : List Value} (h : W.ownsRow base e size v k xs) (hg : W.grownBy W' row)
    (hr : ∀ r, row = some r → ∀ c, W.heap[r]? ≠ some (Obj.cells c e (0, 0))) : W'.ownsRow base e size v k xs := by
  obtain ⟨hl, h | ⟨g, cap, cur, rfl, hb, hh, rest⟩⟩ := h
  · exact ⟨hl, .inl h⟩
  · exact ⟨hl, .inr ⟨g, cap, cur, rfl, hb, (hg.block g (Array.getElem?_eq_some_iff.1 hh).1 (fun e => hr g e.symm cur hh)).trans hh, rest⟩⟩

/-- The cells of a row of elements. -/
def EMatch (W : World) (base : Nat) : List Value → List (Int × List Int) → Prop
  | [], [] => True
  | a :: s :: cs, e :: es => a = .int .i64 e.1 ∧ (∃ ao m c, s = .slice ao m c) ∧ OwnB W base s e.2 ∧ EMatch W base cs es
  | _, _ => False

theorem EMatch.kept {W W' : World} {base : Nat} (hk : ∀ s xs, OwnB W base s xs → OwnB W' base s xs) : ∀ {cs : List Value} {es : List (Int × List Int)}, EMatch W base cs es → EMatch W' base cs es
  | [], [], _ => trivial
  | _ :: _ :: _, _ :: _, ⟨h1, h2, h3, h4⟩ => ⟨h1, h2, hk _ _ h3, EMatch.kept hk h4⟩
theorem EMatch.snoc {W : World} {base : Nat} {t : Int} {ao : Option Addr} {m c : Nat} {ys : List Int} (ho : OwnB W base (.slice ao m c) ys) :
    ∀ {cs : List Value} {es : List (Int × List Int)}, EMatch W base cs es → EMatch W base (cs ++ [.int .i64 t, .slice ao m c]) (es ++ [(t, ys)])
  | [], [], _ => ⟨rfl, ⟨_, _, _, rfl⟩, ho, trivial⟩
  | _ :: _ :: _, _ :: _, ⟨h1, h2, h3, h4⟩ => ⟨h1, h2, h3, EMatch.snoc ho h4⟩

theorem EMatch.len {W : World} {base : Nat} : ∀ {cs : List Value} {es : List (Int × List Int)}, EMatch W base cs es → cs.length = 2 * es.length
  | [], [], _ => rfl
  | _ :: _ :: _, _ :: _, ⟨_, _, _, h4⟩ => by simp only [List.length_cons]; have := EMatch.len h4; omega

theorem EMatch.lt {W : World} {base : Nat} : ∀ {cs : List Value} {es : List (Int × List Int)}, EMatch W base cs es → ∀ i s, cs[2 * i + 1]? = some s → ∀ g, s.ownBlock = some g → g < W.heap.size
  | [], [], _, i, s, h, _, _ => by simp at h
  | _ :: _ :: _, _ :: _, ⟨_, _, h3, h4⟩, i, s, h, g, hg => by
    cases i with
    | zero =>
      simp at h
      subst h
      exact (World.ownsRow.lt h3 g hg).2
    | succ i => exact EMatch.lt h4 i s (by rw [show 2 * (i + 1) + 1 = 2 * i + 1 + 1 + 1 by omega] at h; simpa using h) g hg

/-- No two contents of a row of elements lie in one block. -/
def EApart (cs : List Value) : Prop := ∀ i j s s', i < j → cs[2 * i + 1]? = some s → cs[2 * j + 1]? = some s' → ∀ g, s.ownBlock = some g → s'.ownBlock ≠ some g

theorem EApart.nil : EApart [] := fun i j s s' _ h => by simp at h

theorem EApart.snoc {W w1 : World} {base : Nat} {cs : List Value} {es : List (Int × List Int)} (h : EApart cs) (hm : EMatch W base cs es) {t : Int} {s0 : Value} {ys : List Int} (hO : OwnB w1 W.heap.size s0 ys) : EApart (cs ++ [.int .i64 t, s0]) := by
  intro i j s s' hij h1 h2 g hg hg'
  have hl := hm.len
  rcases Nat.lt_or_ge (2 * j + 1) cs.length with hj | hj
  · rw [List.getElem?_append_left (by omega)] at h1 h2
    exact h i j s s' hij h1 h2 g hg hg'
  · rw [List.getElem?_append_right hj] at h2
    have hj2 : 2 * j + 1 - cs.length = 1 := by
      rcases Nat.lt_or_ge (2 * j + 1 - cs.length) 2 with h' | h'
      · omega
      · rw [List.getElem?_eq_none (by simpa using h')] at h2; cases h2
    rw [hj2] at h2
    simp at h2
    subst h2
    rw [List.getElem?_append_left (by omega)] at h1
    have k1 := hm.lt i s h1 g hg
    have k2 := (World.ownsRow.lt hO g hg').1
    omega

def elS (xs : List Int) (p : Nat) : Int × List Int := ((findS (xs.drop p)).1, contS (xs.drop p))
/-- Where the last of these places' element ends. -/
def endS (xs : List Int) (ps : List Nat) : Nat := match ps.getLast? with
  | none => 0
  | some p => p + (findS (xs.drop p)).2.2.1.toNat
theorem endS_snoc (xs : List Int) (ps : List Nat) (p : Nat) : endS xs (ps ++ [p]) = p + (findS (xs.drop p)).2.2.1.toNat := by simp [endS]

theorem cell_two_new (w : World) (x y : Value) (t : TypeId) : ∀ j u, [x, y][j]? = some u → (w.alloc (.cells #[x, y] t)).cell? ((⟨w.heap.size, 0, none⟩ : Addr).add j) = some u := by
  intro j u hj
  match j, hj with
  | 0, hj => simpa [Addr.add] using hj
  | 1, hj => simpa [Addr.add] using hj
  | _ + 2, hj => simp at hj

theorem KpB.grown {n₀ Bs : Nat} {W W' : World} {row : Option Nat} (hg : W.grownBy W' row) (hn : n₀ ≤ W.heap.size)
    (hr : ∀ r, row = some r → n₀ ≤ r ∧ r ≠ Bs ∧ ∀ c, W.heap[r]? ≠ some (Obj.cells c 100 (0, 0))) : KpB n₀ Bs W W' := by
  refine ⟨(Below.refl n₀ W).grown hg hn (fun k e => (hr k e).1), fun v e => ?_, fun k c e => ?_⟩
  · have hlt := lt_of_cell e
    unfold World.cell? at e ⊢
    rw [show W'.heap[Bs]? = W.heap[Bs]? from hg.block Bs hlt (fun e => (hr Bs e.symm).2.1 rfl)]
    exact e
  · exact (hg.block k (Array.getElem?_eq_some_iff.1 e).1 (fun e' => (hr k e'.symm).2.2 c e)).trans e

/-- What All answers. -/
structure AllAns (W : World) (base : Nat) (xs : List Int) (v : Value) (pl err : Int) : Prop where
  place : pl = (endS xs (placesS xs 0) : Int)
  short : endS xs (placesS xs 0) < xs.length → v = .slice none 0 0 ∧ err = (findS (xs.drop (endS xs (placesS xs 0)))).2.2.2
  whole : ¬ endS xs (placesS xs 0) < xs.length → err = 0 ∧ ∃ cs, W.ownsRow base 68 2 v (placesS xs 0).length cs ∧ EMatch W base cs ((placesS xs 0).map (elS xs)) ∧ (v = .slice none 0 0 ↔ placesS xs 0 = []) ∧ EApart cs

theorem KeepsOthers.below {A B : World} (h : Below A.heap.size A B) : KeepsOthers A B := KeepsOthers.of_grownBy (grown_of_below (r := none) h) (by intro j o e; cases e)

end Go.Proofs.YtgbbgfjamneioaaDoor

namespace Go.Proofs.YtgbbgfjamneioaaDoor
open Go.RowKit Go.IntWalk

set_option maxRecDepth 100000 in
theorem each_any (ao : Option Addr) (n cap : Nat) (xs : List Int) (w : World) (hs : Src w ao n cap xs) (hN : n ≤ 140737488355328) :
    Calls Tryd.prog 41 #[.slice ao n cap] w fun e w' => ∃ ao' c' B, e = .returned (.func (.func 65) #[] #[.pointer (some ⟨B, 0, none⟩)]) ∧ OwnB w' w.heap.size (.slice ao' n c') xs ∧ w.heap.size ≤ B ∧ Boxed w' B 25 (.slice ao' n c') ∧ Below w.heap.size w w' := by
  go_enter Tryd.func41, Tryd.ntmps41
  go_wp2_with (go_at_call 64; refine (cloneE_any ao n cap xs _ hs hN).mono ?_; rintro e w1 ⟨ao', c', rfl, hO, B1⟩)
  go_ret
  exact ⟨ao', c', w1.heap.size, rfl, hO.alloc _, B1.size, Boxed.new w1 25 (.slice ao' n c'), B1.alloc B1.size _⟩

end Go.Proofs.YtgbbgfjamneioaaDoor

namespace Go.Proofs.YtgbbgfjamneioaaDoor
open Go.RowKit
variable {F : Fence} {n : Nat} {P : Program}

/-- A loop's record. -/
def recOf (fn : FuncId) (tmps : Array Value) (ps : Array Tmp) (assign body : Code) (D : Nat) (st : LoopState) (pe : Option Code) : Loop :=
  { state := st, pending := pe, fn := fn, tmps := tmps, params := ps, assign := assign, body := body, defers := D }

theorem range_enter {g : Operand} {ps : Array Tmp} {assign body : Code} {Q : Exit → Act → World → Prop} {a : Act} {w : World} (hro : F.round = none) (h1 : 1 ≤ n) {gf : Nat} {lb : Array Value}
    (hg : a.eval g = .func (.func gf) #[] lb) (hFg : F.fn gf) (eg : ∀ args w, (callFunc gf args).run P w = .ok (.enter gf args) w)
    (h : ∀ fn, F.fn fn → CallsIn F (n - 1) P gf (#[.func (.yield (w.heap.size + 1)) #[] #[]] ++ lb) ((w.alloc (.deferred (some []))).alloc (.loop (recOf fn a.tmps ps assign body w.heap.size .ready none)))
      (rangePost F n P (w.heap.size + 1) Q { a with defers := { target := .collected w.heap.size, args := #[] } :: a.defers })) :
    (Code.rangeFunc g ps assign body).wpIn F n P Q a w := by
  refine wpIn_rangeFunc ?_
  intro fn hfn
  have hc := h fn hfn
  obtain ⟨W1, hW1⟩ : ∃ W1, (w.alloc (.deferred (some []))).alloc (.loop (recOf fn a.tmps ps assign body w.heap.size .ready none)) = W1 := ⟨_, rfl⟩
  rw [hW1] at hc
  refine ⟨w.heap.size + 1, [{ target := .collected w.heap.size, args := #[] }], W1, { target := .fn (.func gf) lb, args := #[.func (.yield (w.heap.size + 1)) #[] #[]] }, W1, gf, #[.func (.yield (w.heap.size + 1)) #[] #[]] ++ lb, W1, ?_, ?_, ?_, ?_, fun _ => h1, ?_⟩
  · rw [hro, ← hW1]; unfold recOf; exact run_enterLoop_outer _ _ _ _ _
  · simp only [resolve, hg]
    simp [go_sem]
  · intro f' hf'
    simp [Target.leads] at hf'
    subst hf'
    exact hFg
  · simp [invoke, go_sem, eg]
  · exact hc

/-- How a round's body may end. -/
def rEnd (l : Nat) (r : LoopState → Option Code → Loop) (R : Ending → World → Prop) : Exit → Act → World → Prop
  | .normal, _, W => W.heap[l]? = some (.loop (r .busy none)) ∧ R (.returned (.bool true)) (W.putObj l (.loop (r .ready none)))
  | .ret, _, W => W.heap[l]? = some (.loop (r .busy none)) ∧ R (.returned (.bool false)) (W.putObj l (.loop (r .done (some .ret))))
  | .exit id, _, W => W.heap[l]? = some (.loop (r .busy none)) ∧ R (.returned (.bool false)) (W.putObj l (.loop (r .done (some (.exit id)))))
  | _, _, _ => False

theorem range_round {fn : FuncId} {l D : Nat} {tmps args : Array Value} {ps : Array Tmp} {assign body : Code} {W : World} {a₁ : Act} {R : Ending → World → Prop} (hfn : F.fn fn)
    (hl : W.heap[l]? = some (.loop (recOf fn tmps ps assign body D .ready none))) (hs : args.size = ps.size)
    (hassign : ∀ K : Act → World → Prop, K a₁ W → assign.wpIn (F.inRound l) n P (Exit.then K (fun _ _ _ => False)) { tmps := (ps.zip args).foldl (fun t (p, v) => t.setIfInBounds p v) tmps, defers := [] } W)
    (hbody : body.wpIn (F.inRound l) n P (rEnd l (recOf fn tmps ps assign body D) R) a₁ (W.putObj l (.loop (recOf fn tmps ps assign body D .busy none)))) :
    YieldAt F n P l args W R := by
  refine ⟨fn, _, assign, body, run_yield (P := P) (args := args) hl hs, roundIn_of_wpIn hfn (hassign _ ⟨_, run_beginRound hl rfl, ?_⟩)⟩
  refine wpIn_mono hbody ?_
  rintro e a' W3 h
  cases e with
  | normal => exact ⟨_, _, run_endRound none h.1, h.2⟩
  | ret => exact ⟨_, _, run_endRound (some .ret) h.1, h.2⟩
  | exit id => exact ⟨_, _, run_endRound (some (.exit id)) h.1, h.2⟩
  | goto t => exact h.elim
  | panic c => exact h.elim
  | outgrown => exact h.elim

/-- The function has returned: no round has left, or one has. -/
theorem range_done {fn : FuncId} {l D : Nat} {tmps : Array Value} {ps : Array Tmp} {assign body : Code} {W : World} {Q : Exit → Act → World → Prop} {a : Act} {v : Value}
    (hl : W.heap[l]? = some (.loop (recOf fn tmps ps assign body D .ready none))) (h : Q .normal a (W.putObj l (.loop (recOf fn tmps ps assign body D .exhausted none)))) : rangePost F n P l Q a (.returned v) W :=
  ⟨none, _, run_endLoop hl (by simp [recOf]), h⟩

theorem range_left {fn : FuncId} {l D : Nat} {tmps : Array Value} {ps : Array Tmp} {assign body c : Code} {W : World} {Q : Exit → Act → World → Prop} {a : Act} {v : Value}
    (hl : W.heap[l]? = some (.loop (recOf fn tmps ps assign body D .done (some c)))) (h : c.wpIn F n P Q a (W.putObj l (.loop (recOf fn tmps ps assign body D .exhausted (some c))))) : rangePost F n P l Q a (.returned v) W :=
  ⟨some c, _, run_endLoop hl (by simp [recOf]), h⟩

end Go.Proofs.YtgbbgfjamneioaaDoor

namespace Go.Proofs.YtgbbgfjamneioaaDoor
open Go.RowKit

theorem wpIn_inRound {F : Fence} {n : Nat} {P : Program} {o : Oper} {a : Act} {w : World} {K : Act → World → Prop} {Q : Exit → Act → World → Prop} (l : Nat) (hro : F.round = none) (hd : ∀ c, o.op ≠ .defer c)
    (h : o.wpIn F n P a w K Q) : o.wpIn (F.inRound l) n P a w K Q := by
  unfold Oper.wpIn at h ⊢
  refine ⟨h.1, ?_⟩
  have h2 := h.2
  rw [hro, Oper.semAt_none] at h2
  have e : Oper.semAt (F.inRound l).round a.eval o = execOp a.eval o := Oper.semAt_some l a.eval o hd
  rw [e]
  generalize (execOp a.eval o).run P w = r at h2
  cases r with
  | ok x w' => cases x <;> exact h2
  | halt x w' => cases x <;> exact h2

theorem wpAnyIn_inRound {F : Fence} {n : Nat} {P : Program} {md : Region.Mode} {ops : Array Oper} {Q : Exit → Act → World → Prop} (l : Nat) (hro : F.round = none) (hd : ∀ (i : Nat) o, ops[i]? = some o → ∀ c, o.op ≠ .defer c) :
    ∀ (fuel : Nat) (listed : Array Bool) (a : Act) (w : World), wpAnyIn F n P md ops Q fuel listed a w → wpAnyIn (F.inRound l) n P md ops Q fuel listed a w
  | 0, _, _, _, h => h
  | fuel + 1, listed, a, w, h => by
    refine ⟨h.1, fun i hi => ?_⟩
    have h2 := h.2 i hi
    unfold wpOpIn at h2 ⊢
    cases ho : ops[i]? with
    | none =>
      simp only [ho] at h2 ⊢
      exact wpAnyIn_inRound l hro hd fuel _ a w h2
    | some o =>
      simp only [ho] at h2 ⊢
      split
      · rename_i hw
        simp only [hw, if_true] at h2
        exact wpIn_inRound l hro (hd i o ho) (Oper.wpIn_mono (fun a' w' h' => wpAnyIn_inRound l hro hd fuel _ a' w' h') h2)
      · rename_i hw
        simp only [hw] at h2
        exact ⟨h2.1, wpAnyIn_inRound l hro hd fuel _ _ _ h2.2⟩

theorem wpIn_region_quiet_round {F : Fence} {n : Nat} {P : Program} {id l : Nat} {Q : Exit → Act → World → Prop} {a : Act} {w : World} {ops : List Oper} (hro : F.round = none) (hd : ∀ (i : Nat) o, ops.toArray[i]? = some o → ∀ c, o.op ≠ .defer c)
    (hm : P.follows .mixedOrders = true) (hB : Region.lexB .any ops.toArray = true)
    (h : wpQuietIn F n P ops.toArray (fun w' => ∃ n, w' = w.drewN n) (fun a' => ∀ w', (∃ n, w' = w.drewN n) → Q .normal a' w') ops a) : (Code.region id ops.toArray true).wpIn (F.inRound l) n P Q a w := by
  simp only [Region.lexB, Bool.and_eq_true] at hB
  refine wpIn_region_any hm (wpAnyIn_inRound l hro hd _ _ _ _ (wpAnyIn_of_quiet (C := fun w' => ∃ n, w' = w.drewN n) (Q := fun a' => ∀ w', (∃ n, w' = w.drewN n) → Q .normal a' w') hro (fun _ w' hw' h => h w' hw') _ _ _ _ ⟨1, rfl⟩ ?_))
  have := wpAnyQIn_lex (F := F) (n := n) (C := fun w' => ∃ n, w' = w.drewN n) (md := .any) hB.1 ops 0 (Array.replicate ops.toArray.size false) a (by simp) (by simpa using hB.2) h
  simpa using this

def noDefer (o : Oper) : Bool := match o.op with
  | .defer _ => false
  | _ => true

/-- The same, that no operation defers told by a test. -/
theorem wpIn_region_quiet_roundB {F : Fence} {n : Nat} {P : Program} {id l : Nat} {Q : Exit → Act → World → Prop} {a : Act} {w : World} {ops : List Oper} (hro : F.round = none) (hd : ops.all noDefer = true)
    (hm : P.follows .mixedOrders = true) (hB : Region.lexB .any ops.toArray = true)
    (h : wpQuietIn F n P ops.toArray (fun w' => ∃ n, w' = w.drewN n) (fun a' => ∀ w', (∃ n, w' = w.drewN n) → Q .normal a' w') ops a) : (Code.region id ops.toArray true).wpIn (F.inRound l) n P Q a w :=
  wpIn_region_quiet_round hro (fun i o ho c hc => by
    have h1 : o ∈ ops := by
      rw [List.getElem?_toArray] at ho
      exact List.mem_of_getElem? ho
    have h2 := List.all_eq_true.1 hd o h1
    unfold noDefer at h2
    rw [hc] at h2
    exact Bool.noConfusion h2) hm hB h

theorem setCell_qN (w : World) (n : Nat) (a : Addr) (v : Value) : (w.drewN n).setCell a v = (w.setCell a v).drewN n := rfl
theorem alloc_qN (w : World) (n : Nat) (o : Obj) : (w.drewN n).alloc o = (w.alloc o).drewN n := rfl

end Go.Proofs.YtgbbgfjamneioaaDoor
