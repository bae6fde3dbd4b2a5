/-
  A region of a deferred function that recovers first, and calls functions behind it.
-/
import Derived.RecoverIn
import Derived.TacticsIn
import Derived.RangeFuncLeaves
import Derived.WalkKit
import Derived.Test.YtaeddbkkkiefcaaProg
namespace Go.Proofs.Ytaeddbkkkiefcaa
open Go

theorem wpSIn_rec {F : Fence} {n : Nat} {P : Program} {Q : Exit → Act → List Frame → World → Prop} {id : Nat} {o : Oper} {l : List Oper} {a : Act} {cs : List Frame} {w : World}
    (habout : ∀ f, o.about P w a.eval = some f → F.fn f) (hw : Region.wanted o (yielded (o :: l).toArray a.tmps) = true) (hr : (execOp a.eval o).run P w = .ok .recover w) (hF0 : F.round = none)
    (h : match recoverD cs with
      | some (v, cs') => wpListIn F n P (o :: l).toArray (fun e a' w' => Q e a' cs' w') l (a.put o.dst v) w
      | none => wpListIn F n P (o :: l).toArray (fun e a' w' => Q e a' cs w') l (a.put o.dst .nilIface) w) :
    (Code.region id (o :: l).toArray false).wpSIn F n P Q a cs w := by
  intro b k hb hro hF hroom
  have ho : ((o :: l).toArray)[0]? = some o := by simp
  have hlist : ∀ (Q' : Exit → Act → World → Prop) a w, wpListIn F n P (o :: l).toArray Q' l a w → wpOpsIn F n P (o :: l).toArray Q' (List.range' 1 l.length) a w := fun Q' a w h => by
    rw [wpOpsIn_eq_wpListIn l 1 (fun j => by rw [List.getElem?_toArray, Nat.add_comm, List.getElem?_cons_succ])]
    exact h
  have hrange : List.range (o :: l).toArray.size = 0 :: List.range' 1 l.length := by
    rw [List.range_eq_range']
    simp [List.range'_succ]
  have key : ∃ e a' cs' w', cs'.length = cs.length ∧ Q e a' cs' w' ∧ ArrivesIn (Machine.fenced P F) P (lone (b.atR a (.inRegion (o :: l).toArray (0 :: List.range' 1 l.length) :: k)) cs w) b k cs' e a' w' := by
    have h0 : (lone (b.atR a (.inRegion (o :: l).toArray (0 :: List.range' 1 l.length) :: k)) cs w).fenced P F := fenced_oper hF hroom ho habout
    have hg := stepGR_op (P := P) (b := b) (k := k) (cs := cs) (w := w) (rest := List.range' 1 l.length) ho hw
    rw [hro, Oper.semAt_none] at hg
    have hfin : ∀ v, (b.atR a (.inRegion (o :: l).toArray (0 :: List.range' 1 l.length) :: k)).finish v = b.atR (a.put o.dst v) (.inRegion (o :: l).toArray (List.range' 1 l.length) :: k) := by
      intro v; rw [Frame.finish_atR, ho]; rfl
    have hk : (b.atR a (.inRegion (o :: l).toArray (0 :: List.range' 1 l.length) :: k)).kind = .deferred := hb
    have htr := tryRecover_deferred hk cs
    split at h
    · rename_i v cs' hrec
      have hlen := recoverD_length hrec
      obtain ⟨e, a', w'', hq, harr⟩ := wp_opsIn (List.range' 1 l.length) _ _ (hlist _ _ _ h) b k cs' (by rw [hro, hF0]) hF (hlen ▸ hroom)
      refine ⟨e, a', cs', w'', hlen, hq, .of_steps (.one h0 (step_lone_go ?_)) harr⟩
      rw [hg, ← hfin]
      simp only [Frame.atR, hro] at htr ⊢
      simp [stepG.apply, hr, htr, hrec]
    · rename_i hrec
      obtain ⟨e, a', w'', hq, harr⟩ := wp_opsIn (List.range' 1 l.length) _ _ (hlist _ _ _ h) b k cs (by rw [hro, hF0]) hF hroom
      refine ⟨e, a', cs, w'', rfl, hq, .of_steps (.one h0 (step_lone_go ?_)) harr⟩
      rw [hg, ← hfin]
      simp only [Frame.atR, hro] at htr ⊢
      simp [stepG.apply, hr, htr, hrec]
  obtain ⟨e, a', cs', w', hl, q, r⟩ := key
  rw [← hrange] at r
  exact ⟨e, a', cs', w', hl, q, .of_steps (.one (fenced_calm hF hroom rfl) stepR_region) r⟩

end Go.Proofs.Ytaeddbkkkiefcaa
