/-
  oid.sound: how many bytes the numbers have that stand ahead of the first one that is wrong (soundS).
-/
import Derived.RangeFuncBox
import Derived.Test.YtlhibocacdjleaaCatch
namespace Go.Proofs.Ytlhibocacdjleaa
open Go.RowKit Go.Shelf Go.IntWalk
attribute [local go_sem] Oper.semAt_some

def soundF (xs : List Int) : Nat → Nat → Nat
  | 0, p => p
  | f + 1, p => if p < xs.length ∧ (nextS (xs.drop p)).2.2 = 0 then soundF xs f (p + (nextS (xs.drop p)).2.1) else p
def soundG (xs : List Int) (p : Nat) : Nat := soundF xs (xs.length - p) p

theorem soundF_any (xs : List Int) : ∀ (f g p : Nat), xs.length - p ≤ f → xs.length - p ≤ g → soundF xs f p = soundF xs g p := by
  intro f
  induction f with
  | zero =>
    intro g p h1 _
    cases g with
    | zero => rfl
    | succ g => simp only [soundF]; rw [if_neg (by omega)]
  | succ f ih =>
    intro g p h1 h2
    cases g with
    | zero => simp only [soundF]; rw [if_neg (by omega)]
    | succ g =>
      simp only [soundF]
      split
      · rename_i h
        have := nextS_in (xs.drop p) h.2
        exact ih g _ (by omega) (by omega)
      · rfl
theorem sound_stop (xs : List Int) (p : Nat) (h : ¬ (p < xs.length ∧ (nextS (xs.drop p)).2.2 = 0)) : soundG xs p = p := by
  rw [soundG, soundF_any xs _ (xs.length - p + 1) p (Nat.le_refl _) (by omega), soundF, if_neg h]
theorem sound_next (xs : List Int) (p : Nat) (h : p < xs.length) (he : (nextS (xs.drop p)).2.2 = 0) : soundG xs p = soundG xs (p + (nextS (xs.drop p)).2.1) := by
  have := nextS_in (xs.drop p) he
  rw [soundG, soundF_any xs _ (xs.length - p + 1) p (Nat.le_refl _) (by omega), soundF, if_pos ⟨h, he⟩, soundG]
  exact soundF_any xs _ _ _ (by omega) (by omega)

/-- What oid.numbers answers. -/
theorem numbers_in (n : Nat) (ao : Option Addr) (len cap : Nat) (w : World) :
    CallsIn Fence.wide n Try.prog 37 #[.slice ao len cap] w fun e w' => e = .returned (.func (.func 53) #[] #[.pointer (some ⟨w.heap.size, 0, none⟩)]) ∧ w' = w.alloc (.cells #[.slice ao len cap] 22) := by
  refine callsIn_of_wp Try.func37 rfl trivial ?_ rfl
  simp only [Try.ntmps37, List.size_toArray, List.length_cons, List.length_nil, Nat.reduceAdd, Nat.reduceSub, Array.replicate_succ, Array.replicate_zero, List.push_toArray, List.append_toArray, List.nil_append, List.cons_append]
  gi_wp2
  go_ret
  exact ⟨rfl, rfl⟩

/-- Between two rounds of sound's loop. -/
structure SInv (w : World) (xs : List Int) (ao : Option Addr) (n cap : Nat) (r : LoopState → Option Code → Loop) (p : Nat) (W : World) : Prop where
  loop : W.heap[w.heap.size + 3]? = some (.loop (r .ready none))
  dfr : W.heap[w.heap.size + 2]? = some (.deferred (some []))
  fin : Boxed W w.heap.size 3 (.int .i64 p)
  b : Boxed W (w.heap.size + 1) 22 (.slice ao n cap)
  at_ : soundG xs 0 = soundG xs p
  bel : Below w.heap.size w W

theorem SInv.drawn {w : World} {xs : List Int} {ao : Option Addr} {n cap : Nat} {r : LoopState → Option Code → Loop} {p : Nat} {W W' : World} (h : SInv w xs ao n cap r p W) (d : Drawn W W') : SInv w xs ao n cap r p W' :=
  ⟨by rw [d.heap]; exact h.loop, by rw [d.heap]; exact h.dfr, by unfold Boxed; rw [d.heap]; exact h.fin, by unfold Boxed; rw [d.heap]; exact h.b, h.at_, d.below h.bel⟩

/-- One round: the place behind the number is written. -/
theorem SInv.next {w : World} {xs : List Int} {ao : Option Addr} {n cap : Nat} {r : LoopState → Option Code → Loop} {p k : Nat} {W : World} (h : SInv w xs ao n cap r p W) (hk : soundG xs p = soundG xs (p + k)) (v : Int) (hv : v = (p : Int) + (k : Int)) :
    ((W.putObj (w.heap.size + 3) (.loop (r .busy none))).setCell ⟨w.heap.size, 0, none⟩ (.int .i64 v)).heap[w.heap.size + 3]? = some (.loop (r .busy none)) ∧
    SInv w xs ao n cap r (p + k) (((W.putObj (w.heap.size + 3) (.loop (r .busy none))).setCell ⟨w.heap.size, 0, none⟩ (.int .i64 v)).putObj (w.heap.size + 3) (.loop (r .ready none))) := by
  have hv' : v = ((p + k : Nat) : Int) := by rw [hv]; simp
  subst hv'
  have hlt : w.heap.size + 3 < W.heap.size := (Array.getElem?_eq_some_iff.1 h.loop).1
  have h1 : ((W.putObj (w.heap.size + 3) (.loop (r .busy none))).setCell ⟨w.heap.size, 0, none⟩ (.int .i64 ((p + k : Nat) : Int))).heap[w.heap.size + 3]? = some (.loop (r .busy none)) := by
    rw [Below.heap_setCell _ _ _ _ (by simp)]; exact World.putObj_heap_same hlt
  have hlt2 := (Array.getElem?_eq_some_iff.1 h1).1
  have f1 := (h.fin.kept (grownBy_putObj' W (w.heap.size + 3) (.loop (r .busy none))) (by simp)).set (.int .i64 ((p + k : Nat) : Int))
  have b1 := (h.b.kept (grownBy_putObj' W (w.heap.size + 3) (.loop (r .busy none))) (by simp)).other (B' := w.heap.size) (by omega) (.int .i64 ((p + k : Nat) : Int))
  refine ⟨h1, World.putObj_heap_same hlt2, ?_, f1.kept (grownBy_putObj' _ _ _) (by simp), b1.kept (grownBy_putObj' _ _ _) (by simp), h.at_.trans hk, ?_⟩
  · rw [World.putObj_heap_other (by omega), Below.heap_setCell _ _ _ _ (by simp), World.putObj_heap_other (by omega)]
    exact h.dfr
  · refine (((h.bel.grown (grownBy_putObj' W _ _) h.bel.size (by intro k e; cases e; omega)).setCell (Nat.le_refl _) _)).grown (grownBy_putObj' _ _ _) ?_ (by intro k e; cases e; omega)
    omega

set_option maxRecDepth 100000 in
/-- How sound is left: the loop's mark, then the deferred function; the answer is what the variable holds. -/
theorem sound_leave (w W : World) (tmps : Array Value) (q p : Nat) (hq : q = p) (u : FrameMode) (hu : u = .returning ∨ ∃ x, u = .panicking (errP x)) (ht : tmps[2]? = some (.pointer (some ⟨w.heap.size, 0, none⟩)))
    (hd : W.heap[w.heap.size + 2]? = some (.deferred (some []))) (bE : Boxed W w.heap.size 3 (.int .i64 p)) (hB : Below w.heap.size w W) :
    LeavesInM Fence.wide 4 Try.prog Try.f45 tmps (fun e w' => e = .returned (.int .i64 q) ∧ Below w.heap.size w w') [{ target := .collected (w.heap.size + 2), args := #[] }, { target := .fn (.func 62) #[], args := #[] }] u W := by
  subst hq
  have hru : u ≠ .run := by rcases hu with rfl | ⟨x, rfl⟩ <;> simp
  have bF := bE.kept (grownBy_putObj' W (w.heap.size + 2) (.deferred none)) (by simp)
  have hBF := hB.grown (grownBy_putObj' W (w.heap.size + 2) (.deferred none)) hB.size (by intro k e; cases e; omega)
  have cF := bF.cell
  refine ⟨hru, .inl ⟨_, _, rfl, run_takeDeferred hd, hru, .inr ⟨by simp [Fence.wide], .func 62, #[], 62, #[], rfl, ?_, fun _ _ => trivial, ?_⟩⟩⟩
  · simp [invoke, go_sem]
  · have fin : ∃ v, (results Try.f45 tmps).run Try.prog (W.putObj (w.heap.size + 2) (.deferred none)) = .ok v (W.putObj (w.heap.size + 2) (.deferred none)) ∧ ((fun (e : Ending) (w' : World) => e = .returned (.int .i64 q) ∧ Below w.heap.size w w') (.returned v) (W.putObj (w.heap.size + 2) (.deferred none))) :=
      ⟨.int .i64 q, by simp [results, Try.results45, go_sem, ht, cF, Array.getD_eq_getD_getElem?], rfl, hBF⟩
    rcases hu with rfl | ⟨x, rfl⟩
    · refine (sound1_idle 3 _).mono ?_
      rintro e u' w' ⟨rfl, rfl, rfl⟩
      exact fin
    · refine (sound1_caught 3 x _).mono ?_
      rintro e u' w' ⟨rfl, hu', rfl⟩
      simp only [hu']
      exact fin

set_option maxRecDepth 100000 in
set_option maxHeartbeats 4000000 in
theorem sound_in (ao : Option Addr) (n cap : Nat) (xs : List Int) (w : World) (hs : Src w ao n cap xs) (hN : n ≤ 140737488355328) :
    CallsIn Fence.wide 4 Try.prog 45 #[.slice ao n cap] w fun e w' => e = .returned (.int .i64 (soundG xs 0)) ∧ Below w.heap.size w w' := by
  have HL := hide hs.hlen
  have hmf : ∀ (fn : Fn) (first cap : Array Value) (w : World), (Instr.makeFunc fn first cap).run Try.prog w = .ok (.func fn first cap) w := fun _ _ _ _ => rfl
  refine callsIn_of_wp_marks Try.func45 rfl trivial ?_ rfl
  simp only [Try.ntmps45, List.size_toArray, List.length_cons, List.length_nil, Nat.reduceAdd, Nat.reduceSub, Array.replicate_succ, Array.replicate_zero, List.push_toArray, List.append_toArray, List.nil_append, List.cons_append]
  gi_wp2_with (refine ⟨trivial, ?_⟩; gi_at_call 37; refine (numbers_in _ _ _ _ _).mono ?_; rintro e w' ⟨rfl, rfl⟩)
  have b0 := (Boxed.new w 3 (.int .i64 0)).alloc (.cells #[.slice ao n cap] 22)
  have b1 := Boxed.new (w.alloc (.cells #[.int .i64 0] 3)) 22 (.slice ao n cap)
  simp only [World.size_alloc] at b1
  have hB0 : Below w.heap.size w ((w.alloc (.cells #[.int .i64 0] 3)).alloc (.cells #[.slice ao n cap] 22)) := ((Below.refl _ w).alloc (Nat.le_refl _) _).alloc (by simp) _
  have hsz : ((w.alloc (.cells #[.int .i64 0] 3)).alloc (.cells #[.slice ao n cap] 22)).heap.size = w.heap.size + 2 := by simp
  obtain ⟨W0, hW0⟩ : ∃ W0, (w.alloc (.cells #[.int .i64 0] 3)).alloc (.cells #[.slice ao n cap] 22) = W0 := ⟨_, rfl⟩
  rw [hW0] at b0 b1 hB0 hsz ⊢
  clear hW0
  refine range_enter rfl (by decide) (gf := 53) (lb := #[.pointer (some ⟨w.heap.size + 1, 0, none⟩)]) rfl trivial (enters_of Try.func53 (by kernel_rfl) rfl) ?_
  intro fn hfn
  rw [hsz]
  generalize hrec : recOf fn _ _ _ _ _ = r
  have i0 : SInv w xs ao n cap r 0 ((W0.alloc (.deferred (some []))).alloc (.loop (r .ready none))) := by
    refine ⟨?_, ?_, (b0.alloc _).alloc _, (b1.alloc _).alloc _, rfl, (hB0.alloc (by omega) _).alloc (by simp; omega) _⟩
    · have := World.alloc_heap_new (W0.alloc (.deferred (some []))) (.loop (r .ready none)); rwa [World.size_alloc, hsz] at this
    · have := World.alloc_heap_new W0 (.deferred (some [])); rw [hsz] at this; rw [Below.heap_alloc _ _ _ (by simp; omega)]; exact this
  refine (numbers1_in 3 (by decide) (w.heap.size + 2 + 1) (w.heap.size + 1) ao n cap xs hN (SInv w xs ao n cap r) (fun _ => False) _ (fun p W1 h => ⟨hs.below h.bel, h.b.cell⟩) (fun p W1 W2 h d => h.drawn d) ?_ i0).mono ?_
  · rintro p k N W1 hI hp hpk hk hnk
    have hl := hI.loop
    rw [← hrec] at hl
    refine range_round (a₁ := { tmps := #[.slice ao n cap, undef, .pointer (some ⟨w.heap.size, 0, none⟩), .int .i64 p, .int .i64 N, .slice ao n cap, .func (.func 53) #[] #[.pointer (some ⟨w.heap.size + 1, 0, none⟩)], .int .i64 p, .int .i64 N, undef, undef, undef, undef, undef], defers := [] }) hfn hl rfl ?_ ?_
    · intro K hK
      gi_wp2
      exact hK
    · rw [hrec]
      have hb : ∀ x ∈ xs.drop p, 0 ≤ x ∧ x < 256 := fun x hx => hs.hbyt x (List.mem_of_mem_drop hx)
      have he : (nextS (xs.drop p)).2.2 = 0 := by rw [hnk]
      have hin := nextS_in (xs.drop p) he
      have hz := nextS_size (xs.drop p) hb he
      rw [hnk] at hin hz
      have q0 : 0 ≤ N := hin.1
      have q1 : N ≤ 2147483647 := hin.2.1
      have hsn : Hid (soundG xs p = soundG xs (p + k)) := by
        unfold Hid
        rw [sound_next xs p (by rw [HL.out]; exact hp) he, hnk]
      have hsc := hide (fun W => osize_any N q0 (by omega) W)
      have hz : sizeS N = (k : Int) := hz
      rw [hz] at hsc
      have HI := hide hI
      have bE := hI.fin.kept (grownBy_putObj' W1 (w.heap.size + 3) (.loop (r .busy none))) (by simp)
      have cE := bE.cell
      have fE := bE.frozen
      have hpI : (p : Int) + (k : Int) ≤ 140737488355328 := by omega
      clear hb he hin hz hnk bE hl hI hrec i0
      gi_wp2_with (refine ⟨trivial, ?_⟩; gi_at_call 38; refine (callsIn_wide.2 (hsc.out _)).mono ?_; rintro e w4 ⟨rfl, hw4⟩)
      obtain ⟨z1, z2⟩ := HI.out.next hsn.out _ rfl
      exact ⟨z1, .inl ⟨rfl, z2⟩⟩
  · rintro e W' (⟨⟨v, rfl⟩, hJ | hJ⟩ | ⟨p, hp, he, rfl, hJ⟩)
    · have hl := hJ.loop
      rw [← hrec] at hl
      refine range_done hl ?_
      rw [hrec]
      have bE := hJ.fin.kept (grownBy_putObj' W' (w.heap.size + 2 + 1) (.loop (r .exhausted none))) (by simp; omega)
      have hd : (W'.putObj (w.heap.size + 2 + 1) (.loop (r .exhausted none))).heap[w.heap.size + 2]? = some (.deferred (some [])) := (World.putObj_heap_other (by omega)).trans hJ.dfr
      have hB := hJ.bel.grown (grownBy_putObj' W' (w.heap.size + 2 + 1) (.loop (r .exhausted none))) hJ.bel.size (by intro k e; cases e; omega)
      have hfin := hide (hJ.at_.trans (sound_stop xs n (by rw [HL.out]; omega)))
      generalize W'.putObj (w.heap.size + 2 + 1) (.loop (r .exhausted none)) = W2 at bE hd hB ⊢
      have cE := bE.cell
      have fE := bE.frozen
      clear hJ hl hrec i0
      gi_wp2
      exact sound_leave w _ _ _ n hfin.out _ (.inl rfl) rfl (by rw [Below.heap_setCell _ _ _ _ (by simp)]; exact hd) (bE.set _) (hB.setCell (Nat.le_refl _) _)
    · exact hJ.elim
    · have hd := hJ.dfr
      have bE := hJ.fin
      have hB := hJ.bel
      have hfin := hide (hJ.at_.trans (sound_stop xs p (fun h => he h.2)))
      clear hJ hrec i0
      simp only [rangePost, Exit.inBlock, Exit.then]
      exact sound_leave w _ _ _ p hfin.out _ (.inr ⟨_, rfl⟩) rfl hd bE hB

end Go.Proofs.Ytlhibocacdjleaa
